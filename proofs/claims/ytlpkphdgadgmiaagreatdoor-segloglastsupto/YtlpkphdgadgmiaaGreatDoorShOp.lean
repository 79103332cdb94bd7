import Derived.Test.YtlpkphdgadgmiaaGreatDoorCards
import Derived.Test.YtlpkphdgadgmiaaGreatDoorTie
import Derived.Test.YtlpkphdgadgmiaaGreatDoorKn
import Derived.WalkKit
import Derived.ProofKit
import Derived.OpenShut
import Derived.ShutString
import Derived.ChangeOld
import Derived.Below
import Derived.SizedLaws
import Derived.Deep.DeepHandedRow
import Derived.Lib.LaidTab
namespace Go.Proofs.YtlpkphdgadgmiaaGreatDoor.W
open Go.ChangeShapes Go.WideShapes Go.ChangeAt Go.RowKit
set_option linter.unusedVariables false
set_option linter.unusedSimpArgs false
set_option maxRecDepth 100000

theorem own : ownKnob Tryz.prog.godebug = none := by kernel_rfl
theorem laidOut : laidOutB Tryz.prog = true := by kernel_rfl
theorem gTab : Tryz.prog.globalNamed "hustings/frame.fourBits" = some 0 := by kernel_rfl
theorem gTabType : (Tryz.prog.globals[0]?).map (·.type) = some 266 := by kernel_rfl
theorem gPowType : (Tryz.prog.globals[3]?).map (·.type) = some 275 := by kernel_rfl
theorem cells266 : Tryz.prog.cellsOf 266 = 16 := by kernel_rfl
theorem cells157 : Tryz.prog.cellsOf 157 = 1 := by kernel_rfl
theorem cells275 : Tryz.prog.cellsOf 275 = 20 := by kernel_rfl
theorem cells213 : Tryz.prog.cellsOf 213 = 1 := by kernel_rfl
theorem cells3 : Tryz.prog.cellsOf 3 = 1 := by kernel_rfl
theorem cells49 : Tryz.prog.cellsOf 49 = 1 := by kernel_rfl
theorem cells5 : Tryz.prog.cellsOf 5 = 1 := by kernel_rfl
theorem bytes5 : Tryz.prog.bytesOf 5 = 1 := by kernel_rfl
theorem bytes3 : Tryz.prog.bytesOf 3 = 8 := by kernel_rfl
theorem bytes51 : Tryz.prog.bytesOf 51 = 48 := by kernel_rfl

theorem laid_tail {P : Program} {x : String × DataW Unit} {r : List (String × DataW Unit)} {w : World} (h : laidMet P (x :: r) w) : laidMet P r w := by
 obtain ⟨ps, ⟨g, t, cs, fuel, p, q, h1, h2, h3, h4, h5, rfl⟩, hn, hc⟩ := h
 exact ⟨q, h5, (List.nodup_append.1 hn).2.1, fun b off hb => hc b off (List.mem_append.2 (.inr hb))⟩
theorem pow_eq : (Rows.laid_internal_strconv_uint64pow10 : DataW Unit) = Lib.tabData .u64 Lib.pow10Tab := by kernel_rfl
theorem tabs_of {W : World} (h : laidMetH Tryz.prog [("math/bits.deBruijn32tab", Rows.laid_math_bits_deBruijn32tab), ("math/bits.deBruijn64tab", Rows.laid_math_bits_deBruijn64tab), ("internal/strconv.uint64pow10", Rows.laid_internal_strconv_uint64pow10), ("unicode/utf8.acceptRanges", Rows.laid_unicode_utf8_acceptRanges), ("strconv.ErrRange", Rows.laid_strconv_ErrRange), ("strconv.ErrSyntax", Rows.laid_strconv_ErrSyntax), ("hustings/frame.fourBits", Rows.laid_hustings_frame_fourBits), ("unicode/utf8.first", Rows.laid_unicode_utf8_first)] W) : Tb W := by
 have h1 : laidMet Tryz.prog [("math/bits.deBruijn32tab", Rows.laid_math_bits_deBruijn32tab), ("math/bits.deBruijn64tab", Rows.laid_math_bits_deBruijn64tab), ("internal/strconv.uint64pow10", Rows.laid_internal_strconv_uint64pow10), ("unicode/utf8.acceptRanges", Rows.laid_unicode_utf8_acceptRanges), ("strconv.ErrRange", Rows.laid_strconv_ErrRange), ("strconv.ErrSyntax", Rows.laid_strconv_ErrSyntax), ("hustings/frame.fourBits", Rows.laid_hustings_frame_fourBits), ("unicode/utf8.first", Rows.laid_unicode_utf8_first)] W := h
 have h2 := laid_tail (laid_tail h1)
 have h3 := laid_tail (laid_tail (laid_tail (laid_tail h2)))
 rw [pow_eq] at h2
 have hp : Lib.TabIs Tryz.prog W "internal/strconv.uint64pow10" .u64 Lib.pow10Tab := Lib.tabIs_of_head pow_block gPowType Tryz.underlying275 Tryz.underlying213 cells213 cells275 h2
 refine ⟨?_, hp⟩
 have ht : Lib.TabIs Tryz.prog W "hustings/frame.fourBits" .u32 [0, 274646895, 549293790, 820201905, 1098587580, 1361435347, 1640403810, 1905808397, 2197175160, 2460548119, 2722870694, 2987750089, 3280807620, 3553878443, 3811616794, 4084100981] :=
  Lib.tabIs_of_head gTab gTabType Tryz.underlying266 Tryz.underlying157 cells157 cells266 h3
 intro j hj
 rw [ht.cell gTab j hj]
 have : ∀ i : Fin 16, ([0, 274646895, 549293790, 820201905, 1098587580, 1361435347, 1640403810, 1905808397, 2197175160, 2460548119, 2722870694, 2987750089, 3280807620, 3553878443, 3811616794, 4084100981] : List Int).getD i.val 0 = ((F.tabV i.val).toNat : Int) := by decide
 rw [this ⟨j, hj⟩]

theorem bytes_in {H : Type} {enc : TypeId × Value → H} {W : World} {base : Nat} {held : Bool} {fuel : Nat} {v : Value} {x : DataW H × List MemPlace} (h : DataW.trod enc Tryz.prog W base (fun _ => true) held fuel 49 [v] = some x) :
  ∃ (l : List UInt8), Byt W v l := by
 rcases open_ints Tryz.underlying49 Tryz.underlying5 cells5 h with ⟨hcs, _⟩ | ⟨a, len, cap, zs, hcs, _, hl, hm, hz, _, hcell, hwz⟩
 ·have hv : v = .slice none 0 0 := by simpa using hcs
  rw [hv]
  exact ⟨[], Byt.nil W⟩
 ·have hv : v = .slice (some a) len cap := by simpa using hcs
  have hzl : zs.length = cap := by simpa using hz
  have hb : ∀ n ∈ zs, 0 ≤ n ∧ n ≤ 255 := fun n hn => by
   have := bounds_u8 (hwz n hn)
   omega
  by_cases h0 : len = 0
  ·subst h0
   exact ⟨[], .inl ⟨rfl, some a, cap, hv, by simp⟩⟩
  ·obtain ⟨b, off, spot⟩ := a
   have hc0 := hcell 0 (by omega)
   have hspot : spot = none := by simpa [Addr.add] using World.cell?_spot hc0
   subst hspot
   have hadd : ∀ j, ((⟨b, off, none⟩ : Addr).add j) = ⟨b, off + j, none⟩ := fun j => by unfold Addr.add; split <;> simp_all
   have hlen : ((zs.take len).map (fun n => UInt8.ofNat n.toNat)).length = len := by simp; omega
   refine ⟨(zs.take len).map (fun n => UInt8.ofNat n.toNat), .inr ⟨b, off, cap, by rw [hlen]; exact hv, by rw [hlen]; omega, fun j u hj => ?_⟩⟩
   simp only [List.getElem?_map, List.getElem?_take] at hj
   split at hj
   ·rename_i hjl
    have hjz : j < zs.length := by omega
    rw [List.getElem?_eq_getElem hjz] at hj
    simp at hj
    have hcj := hcell j hjz
    rw [hadd] at hcj
    rw [hcj, ← hj, List.getD_eq_getElem?_getD, List.getElem?_eq_getElem hjz]
    have hr := hb zs[j] (List.getElem_mem hjz)
    simp
    omega
   ·simp at hj

theorem bytes_lenA {H : Type} {enc : TypeId × Value → H} {W : World} {base : Nat} {held : Bool} {fuel : Nat} {v : Value} {x : DataW H × List MemPlace} (h : DataW.trod enc Tryz.prog W base (fun _ => true) held fuel 49 [v] = some x)
  (hw : ∀ n ∈ x.1.weights Tryz.prog 49, n ≤ reachBytes) {l : List UInt8} (hb : Byt W v l) : l.length + 2 ≤ 140737488355328 := by
 obtain ⟨a0, c0, e0⟩ := hb.len
 rcases DataW.trod_slice Tryz.underlying49 h with ⟨hcs, _⟩ | ⟨a', len, cap', elems, rest, n, _, hcs, hy, _, _, _, hel, _⟩
 ·rw [e0] at hcs; simp at hcs; simp [hcs.2.1]
 ·rw [e0] at hcs; simp at hcs
  obtain ⟨_, hln, _⟩ := hcs
  have hmem : (elems.length + rest.length) * Tryz.prog.bytesOf 5 ∈ x.1.weights Tryz.prog 49 := by
   rw [hy]
   simp [DataW.weights, Tryz.underlying49]
  have := hw _ hmem
  rw [bytes5] at this
  unfold reachBytes at this
  omega


theorem choose_list {α : Type} (n : Nat) (P : Nat → α → Prop) (h : ∀ i, i < n → ∃ f, P i f) : ∃ fs : List α, fs.length = n ∧ ∀ (i : Nat) f, fs[i]? = some f → P i f := by
 refine ⟨List.ofFn (fun i : Fin n => Classical.choose (h i.val i.isLt)), by simp, fun i f hf => ?_⟩
 rw [List.getElem?_ofFn] at hf
 split at hf
 ·rename_i hi
  cases hf
  exact Classical.choose_spec (h i hi)
 ·cases hf
theorem cells38 : Tryz.prog.cellsOf 51 = 4 := by kernel_rfl
theorem list4 {α : Type} {l : List α} (h : l.length = 4) : ∃ a b c d, l = [a, b, c, d] := by
 match l, h with
 | [a, b, c, d], _ => exact ⟨a, b, c, d, rfl⟩

set_option maxRecDepth 100000 in
theorem ent_open {H : Type} {enc : TypeId × Value → H} {W : World} {fuel : Nat} {cs : List Value} {x : DataW H × List MemPlace} (h : DataW.trod enc Tryz.prog W 0 (fun _ => true) true fuel 51 cs = some x) (hw : ∀ n ∈ x.1.weights Tryz.prog 51, n ≤ reachBytes) :
  ∃ (y : Ent) (dv : Value), cs = [.int .i64 y.term, .int .i64 y.index, .int .i64 y.kind, dv] ∧ Byt W dv y.data ∧ y.data.length + 2 ≤ 140737488355328 := by
 obtain ⟨xs, m, _, hx, hl, hlen, hf⟩ := DataW.trod_struct Tryz.underlying51 h
 rw [cells38] at hl
 obtain ⟨c0, c1, c2, c3, rfl⟩ := list4 hl
 obtain ⟨y0, y1, y2, y3, rfl⟩ := list4 hlen
 have h0 : DataW.trod enc Tryz.prog W 0 (fun _ => true) true m 3 [c0] = some y0 := by
  have h : DataW.trod enc Tryz.prog W 0 (fun _ => true) true m 3 (List.take (Tryz.prog.cellsOf 3) [c0, c1, c2, c3]) = some y0 := hf 0 _ rfl
  rw [cells3] at h
  exact h
 have h1 : DataW.trod enc Tryz.prog W 0 (fun _ => true) true m 3 [c1] = some y1 := by
  have h : DataW.trod enc Tryz.prog W 0 (fun _ => true) true m 3 (List.take (Tryz.prog.cellsOf 3) [c1, c2, c3]) = some y1 := hf 1 _ rfl
  rw [cells3] at h
  exact h
 have h2 : DataW.trod enc Tryz.prog W 0 (fun _ => true) true m 3 [c2] = some y2 := by
  have h : DataW.trod enc Tryz.prog W 0 (fun _ => true) true m 3 (List.take (Tryz.prog.cellsOf 3) [c2, c3]) = some y2 := hf 2 _ rfl
  rw [cells3] at h
  exact h
 have h3 : DataW.trod enc Tryz.prog W 0 (fun _ => true) true m 49 [c3] = some y3 := by
  have h : DataW.trod enc Tryz.prog W 0 (fun _ => true) true m 49 (List.take (Tryz.prog.cellsOf 49) [c3]) = some y3 := hf 3 _ rfl
  rw [cells49] at h
  exact h
 obtain ⟨d, hb⟩ := bytes_in h3
 have hwd : ∀ n ∈ y3.1.weights Tryz.prog 49, n ≤ reachBytes := fun n hn => hw n (by
  rw [hx]
  simp only [DataW.weights, Tryz.underlying51]
  exact DataW.weights_mem_each (j := 3) (t := 49) (d := y3.1) rfl rfl _ hn)
 obtain ⟨k0, e0, _, _⟩ := DataW.trod_int Tryz.underlying3 h0
 obtain ⟨k1, e1, _, _⟩ := DataW.trod_int Tryz.underlying3 h1
 obtain ⟨k2, e2, _, _⟩ := DataW.trod_int Tryz.underlying3 h2
 have hk0 : c0 = .int .i64 k0 := by simpa using e0
 have hk1 : c1 = .int .i64 k1 := by simpa using e1
 have hk2 : c2 = .int .i64 k2 := by simpa using e2
 exact ⟨⟨k0, k1, k2, d⟩, c3, by rw [hk0, hk1, hk2], hb, bytes_lenA h3 hwd hb⟩

theorem weights_all {H : Type} {P : Program} {e : TypeId} {d : DataW H} : ∀ {ds : List (DataW H)}, d ∈ ds → ∀ n ∈ d.weights P e, n ∈ DataW.weightsAll P e ds
 | d0 :: ds, hd, n, hn => by
  simp only [DataW.weightsAll, List.mem_append]
  rcases List.mem_cons.1 hd with rfl | hd
  ·exact .inl hn
  ·exact .inr (weights_all hd n hn)
 | [], hd, _, _ => by simp at hd
theorem cells_four {w : World} {a : Addr} {c0 c1 c2 c3 : Value} (h : w.cells? 0 a 4 = some [c0, c1, c2, c3]) : w.cell? (a.add 0) = some c0 ∧ w.cell? (a.add 1) = some c1 ∧ w.cell? (a.add 2) = some c2 ∧ w.cell? (a.add 3) = some c3 := by
 simp [World.cells?, List.range, List.range.loop, List.mapM_cons, Option.bind_eq_some_iff] at h
 exact h

theorem ents_in {H : Type} {enc : TypeId × Value → H} {W : World} {fuel : Nat} {v : Value} {x : DataW H × List MemPlace} (h : DataW.trod enc Tryz.prog W 0 (fun _ => true) true fuel 30 [v] = some x) (hw : ∀ n ∈ x.1.weights Tryz.prog 30, n ≤ reachBytes) :
  ∃ es, EntsR W v es ∧ es.length * 48 ≤ 140737488355328 := by
 rcases DataW.trod_slice Tryz.underlying30 h with ⟨hcs, _⟩ | ⟨a, len, cap, elems, rest, n, _, hcs, hx, _, hlc, hcm, hel, hel2, _⟩
 ·simp at hcs
  exact ⟨[], .inl ⟨rfl, none, 0, hcs, fun _ => rfl⟩, by simp⟩
 ·simp at hcs
  by_cases h0 : len = 0
  ·subst h0
   exact ⟨[], .inl ⟨rfl, some a, cap, hcs, by simp⟩, by simp⟩
  have each : ∀ i, i < len → ∃ f : Ent, ∃ dv, W.cell? (a.add (i * 4)) = some (.int .i64 f.term) ∧ W.cell? ((a.add (i * 4)).add 1) = some (.int .i64 f.index) ∧ W.cell? ((a.add (i * 4)).add 2) = some (.int .i64 f.kind) ∧ W.cell? ((a.add (i * 4)).add 3) = some dv ∧ Byt W dv f.data ∧ f.data.length ≤ 140737488355328 := fun i hi => by
   have he := hel2 i hi
   rw [cells38] at he
   have hil : i < elems.length := by omega
   rw [List.getElem?_eq_getElem hil] at he
   obtain ⟨cs, hcs2, htr⟩ := Option.bind_eq_some_iff.1 he
   have hmem : ∀ k ∈ elems[i].1.weights Tryz.prog 51, k ≤ reachBytes := fun k hk => hw k (by
    rw [hx]
    simp only [DataW.weights, Tryz.underlying30, List.mem_cons, List.mem_append]
    right; left
    exact weights_all (List.mem_map.2 ⟨_, List.getElem_mem hil, rfl⟩) k hk)
   obtain ⟨y, dv, rfl, hb, hd⟩ := ent_open htr hmem
   obtain ⟨d0, d1, d2, d3⟩ := cells_four hcs2
   exact ⟨y, dv, by simpa [Addr.add] using d0, d1, d2, d3, hb, by omega⟩
  obtain ⟨f0, dv0, hc0, _⟩ := each 0 (by omega)
  obtain ⟨b, off, spot⟩ := a
  have hspot : spot = none := by simpa [Addr.add] using World.cell?_spot hc0
  subst hspot
  obtain ⟨fs, hl, hfs⟩ := choose_list len _ each
  refine ⟨fs, .inr ⟨b, off, cap, by rw [hl]; exact hcs, by omega, fun i f hf => ?_⟩, ?_⟩
  ·obtain ⟨dv, h0, h1, h2, h3, h4, h5⟩ := hfs i f hf
   rw [addr_add] at h0 h1 h2 h3
   rw [addr_add] at h1 h2 h3
   exact ⟨dv, h0, h1, h2, h3, h4, h5⟩
  ·have hmem : (elems.length + rest.length) * Tryz.prog.bytesOf 51 ∈ x.1.weights Tryz.prog 30 := by
    rw [hx]
    simp [DataW.weights, Tryz.underlying30]
   have := hw _ hmem
   rw [bytes51] at this
   unfold reachBytes at this
   omega


theorem ints_in {H : Type} {enc : TypeId × Value → H} {W : World} {base : Nat} {held : Bool} {fuel : Nat} {v : Value} {x : DataW H × List MemPlace} (h : DataW.trod enc Tryz.prog W base (fun _ => true) held fuel 85 [v] = some x) :
  ∃ (l : List Int), IntsR W v l ∧ ∀ z ∈ l, -9223372036854775808 ≤ z ∧ z ≤ 9223372036854775807 := by
 rcases open_ints Tryz.underlying85 Tryz.underlying3 cells3 h with ⟨hcs, _⟩ | ⟨a, len, cap, zs, hcs, _, hl, hm, hz, _, hcell, hwz⟩
 ·have hv : v = .slice none 0 0 := by simpa using hcs
  rw [hv]
  exact ⟨[], IntsR.nil W, by simp⟩
 ·have hv : v = .slice (some a) len cap := by simpa using hcs
  have hzl : zs.length = cap := by simpa using hz
  by_cases h0 : len = 0
  ·subst h0
   exact ⟨[], .inl ⟨rfl, some a, cap, hv, by simp⟩, by simp⟩
  ·obtain ⟨b, off, spot⟩ := a
   have hc0 := hcell 0 (by omega)
   have hspot : spot = none := by simpa [Addr.add] using World.cell?_spot hc0
   subst hspot
   have hadd : ∀ j, ((⟨b, off, none⟩ : Addr).add j) = ⟨b, off + j, none⟩ := fun j => addr_add _ _ _
   have hlen : (zs.take len).length = len := by simp; omega
   refine ⟨zs.take len, .inr ⟨b, off, cap, by rw [hlen]; exact hv, by rw [hlen]; omega, fun j u hj => ?_⟩, fun z hz => ?_⟩
   ·rw [List.getElem?_take] at hj
    split at hj
    ·rename_i hjl
     have hjz : j < zs.length := by omega
     have hcj := hcell j hjz
     rw [hadd] at hcj
     rw [hcj, List.getD_eq_getElem?_getD, hj]
     rfl
    ·cases hj
   ·have := hwz z (List.mem_of_mem_take hz)
    simpa [Lit.wf, IntKind.min, IntKind.max, IntKind.signed, IntKind.bits] using this


theorem ints_len {H : Type} {enc : TypeId × Value → H} {WW : World} {base : Nat} {held : Bool} {fuel : Nat} {v : Value} {x : DataW H × List MemPlace} (h : DataW.trod enc Tryz.prog WW base (fun _ => true) held fuel 85 [v] = some x)
  (hw : ∀ n ∈ x.1.weights Tryz.prog 85, n ≤ reachBytes) {l : List Int} (hb : IntsR WW v l) : l.length ≤ 17592186044416 := by
 obtain ⟨a0, c0, e0⟩ := hb.len
 rcases DataW.trod_slice Tryz.underlying85 h with ⟨hcs, _⟩ | ⟨a', len, cap', elems, rest, n, _, hcs, hy, _, _, _, hel, _⟩
 ·rw [e0] at hcs; simp at hcs; simp [hcs.2.1]
 ·rw [e0] at hcs; simp at hcs
  obtain ⟨_, hln, _⟩ := hcs
  have hmem : (elems.length + rest.length) * Tryz.prog.bytesOf 3 ∈ x.1.weights Tryz.prog 85 := by
   rw [hy]
   simp [DataW.weights, Tryz.underlying85]
  have := hw _ hmem
  rw [bytes3] at this
  unfold reachBytes at this
  omega

noncomputable def lay (h : Array Obj) (b : Nat) (cs : Array Value) : Array Obj := h.modify b fun
 | .cells _ t frozen => .cells cs t frozen
 | o => o
def tabCells : List (Nat × Array Value) := [(0, #[.int .u32 0, .int .u32 274646895, .int .u32 549293790, .int .u32 820201905, .int .u32 1098587580, .int .u32 1361435347, .int .u32 1640403810, .int .u32 1905808397, .int .u32 2197175160, .int .u32 2460548119, .int .u32 2722870694, .int .u32 2987750089, .int .u32 3280807620, .int .u32 3553878443, .int .u32 3811616794, .int .u32 4084100981]),
 (1, #[.iface 294 (.pointer (some ⟨14, 0, none⟩))]), (2, #[.iface 294 (.pointer (some ⟨15, 0, none⟩))]),
 (3, #[.int .u64 1, .int .u64 10, .int .u64 100, .int .u64 1000, .int .u64 10000, .int .u64 100000, .int .u64 1000000, .int .u64 10000000, .int .u64 100000000, .int .u64 1000000000, .int .u64 10000000000, .int .u64 100000000000, .int .u64 1000000000000, .int .u64 10000000000000, .int .u64 100000000000000, .int .u64 1000000000000000, .int .u64 10000000000000000, .int .u64 100000000000000000, .int .u64 1000000000000000000, .int .u64 10000000000000000000]),
 (5, (Pinned.utf8FirstZ.map fun n => Value.int .u8 (n : Nat)).toArray),
 (6, #[.int .u8 128, .int .u8 191, .int .u8 160, .int .u8 191, .int .u8 128, .int .u8 159, .int .u8 144, .int .u8 191, .int .u8 128, .int .u8 143, .int .u8 0, .int .u8 0, .int .u8 0, .int .u8 0, .int .u8 0, .int .u8 0, .int .u8 0, .int .u8 0, .int .u8 0, .int .u8 0, .int .u8 0, .int .u8 0, .int .u8 0, .int .u8 0, .int .u8 0, .int .u8 0, .int .u8 0, .int .u8 0, .int .u8 0, .int .u8 0, .int .u8 0, .int .u8 0]),
 (7, #[.int .u8 0, .int .u8 1, .int .u8 28, .int .u8 2, .int .u8 29, .int .u8 14, .int .u8 24, .int .u8 3, .int .u8 30, .int .u8 22, .int .u8 20, .int .u8 15, .int .u8 25, .int .u8 17, .int .u8 4, .int .u8 8, .int .u8 31, .int .u8 27, .int .u8 13, .int .u8 23, .int .u8 21, .int .u8 19, .int .u8 16, .int .u8 7, .int .u8 26, .int .u8 12, .int .u8 18, .int .u8 6, .int .u8 11, .int .u8 5, .int .u8 10, .int .u8 9]),
 (8, #[.int .u8 0, .int .u8 1, .int .u8 56, .int .u8 2, .int .u8 57, .int .u8 49, .int .u8 28, .int .u8 3, .int .u8 61, .int .u8 58, .int .u8 42, .int .u8 50, .int .u8 38, .int .u8 29, .int .u8 17, .int .u8 4, .int .u8 62, .int .u8 47, .int .u8 59, .int .u8 36, .int .u8 45, .int .u8 43, .int .u8 51, .int .u8 22, .int .u8 53, .int .u8 39, .int .u8 33, .int .u8 30, .int .u8 24, .int .u8 18, .int .u8 12, .int .u8 5, .int .u8 63, .int .u8 55, .int .u8 48, .int .u8 27, .int .u8 60, .int .u8 41, .int .u8 37, .int .u8 16, .int .u8 46, .int .u8 35, .int .u8 44, .int .u8 21, .int .u8 52, .int .u8 32, .int .u8 23, .int .u8 11, .int .u8 54, .int .u8 26, .int .u8 40, .int .u8 15, .int .u8 34, .int .u8 20, .int .u8 31, .int .u8 10, .int .u8 25, .int .u8 14, .int .u8 19, .int .u8 9, .int .u8 13, .int .u8 8, .int .u8 7, .int .u8 6])]
noncomputable def laidWorld (os : Os) : World :=
 { World.holding Tryz.prog os ⟨#[], #[], []⟩ with heap := (tabCells.foldl (fun h p => lay h p.1 p.2) (World.holding Tryz.prog os ⟨#[], #[], []⟩).heap) ++ #[.cells #[.string ⟨#[105, 110, 118, 97, 108, 105, 100, 32, 115, 121, 110, 116, 97, 120]⟩] 296, .cells #[.string ⟨#[118, 97, 108, 117, 101, 32, 111, 117, 116, 32, 111, 102, 32, 114, 97, 110, 103, 101]⟩] 296] }
end Go.Proofs.YtlpkphdgadgmiaaGreatDoor.W
