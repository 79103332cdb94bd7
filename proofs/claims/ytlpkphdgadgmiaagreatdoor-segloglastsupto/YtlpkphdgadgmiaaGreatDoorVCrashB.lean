import Derived.Test.YtlpkphdgadgmiaaGreatDoorVCrash
namespace Go.Proofs.YtlpkphdgadgmiaaGreatDoor.V
set_option maxRecDepth 100000
open Go.RowKit Go.Maps Go.WideMaps Go.WideElems
set_option linter.unusedVariables false
set_option linter.unusedSimpArgs false

theorem IsDir.tight {w : World} {b n : Nat} {D : DataW Unit} (h : IsDir w b n D) : IsDir w b (Maps.size D) D := by
 obtain ⟨es, clock, hb, Ft, hs, rfl⟩ := h
 exact ⟨es, clock, hb, Ft, by rw [size_eq, length_sorted]; simp, rfl⟩

theorem slice_to (a : Option Addr) (L cap k : Nat) (h2 : k ≤ cap) (w : World) :
  (Instr.slice 68 (.slice a L cap) none (some (.int .i64 k)) none).run Tryz.prog w = .ok (.slice a k cap) w := by
 have hz : (sizeOf 114).run Tryz.prog w = .ok 1 w := Tryz.sizeOf83 w
 have e : Tryz.prog.elem 68 = 114 := by kernel_rfl
 have ht : Tryz.prog.underlying 68 = some (.slice (Tryz.prog.elem 68)) := by rw [e]; exact Tryz.underlying68
 rw [run_slice_h w 68 a L cap ht .i64 k (by omega) (by omega)]
 rw [e, hz]
 have e2 : (if cap = 0 then a else a.map (fun x => x.add (0 * 1))) = a := by
  split
  ·rfl
  ·cases a <;> simp [Addr.add]
 simp [Result.andThen, sliced, e2]

def replay (chs : List (Value × Chg)) (k : Nat) (D : DataW Unit) : DataW Unit := (chs.take k).foldl (fun D c => c.2.on D) D

theorem replay_succ (chs : List (Value × Chg)) (k : Nat) (D : DataW Unit) (h : k < chs.length) : replay chs (k + 1) D = (chs[k]).2.on (replay chs k D) := by
 unfold replay
 rw [List.take_succ_eq_append_getElem h, List.foldl_append]
 rfl

def keepS (cs : List Int) (D : DataW Unit) (a : (Nat → Option FileG) × Nat) (s : List UInt8) : (Nat → Option FileG) × Nat :=
 match fileAt D (.string s) with
 | some f =>
  match a.1 f with
  | some x => (upd a.1 f (x.cut (pick cs a.2 (x.data.length - x.synced))), a.2 + 1)
  | none => a
 | none => a

def crashTo (cs : List Int) (D : DataW Unit) (files : Nat → Option FileG) (k : Nat) : (Nat → Option FileG) × Nat := ((sortedKeys D).take k).foldl (keepS cs D) (files, 1)

theorem crashTo_succ (cs : List Int) (D : DataW Unit) (files : Nat → Option FileG) (k : Nat) (h : k < (sortedKeys D).length) : crashTo cs D files (k + 1) = keepS cs D (crashTo cs D files k) (sortedKeys D)[k] := by
 unfold crashTo
 rw [List.take_succ_eq_append_getElem h, List.foldl_append]
 rfl

theorem entry_key {P : Program} {k : TypeId} {R : Value → Option (DataW Unit × List MemPlace)} {es : Array MapEntry} {clock : Nat} (Ft : Fit P k R es clock) {p : Lit × DataW Unit} (hp : p ∈ (es.toList.map (rg P k R)).foldr DataW.insert []) : ∃ key, keyOf P k key = some p.1 := by
 obtain ⟨x, hx, rfl⟩ := List.mem_map.1 (mem_sorted.1 hp)
 obtain ⟨y, hy⟩ := Ft.reads x hx
 rw [rg_of hy]
 exact ⟨x.key, Go.WideElems.rd_key hy⟩

theorem keys_file {w : World} {b n : Nat} {D : DataW Unit} {files : Nat → Option FileG} (h : IsDir w b n D) (hg : Good files D) {s : List UInt8} (hs : s ∈ sortedKeys D) : s.length ≤ maxLen ∧ ∃ f, fileAt D (.string s) = some f := by
 have hs' : s ∈ strKeys D := by unfold sortedKeys at hs; exact (List.mergeSort_perm _ _).mem_iff.1 hs
 obtain ⟨es, clock, hb, Ft, _, hD⟩ := h
 subst hD
 obtain ⟨p, hp, hps⟩ := List.mem_map.1 hs'
 obtain ⟨kv, hk⟩ := entry_key Ft hp
 obtain ⟨t, ht⟩ := inv9 kv p.1 hk
 rw [ht] at hk
 have hk2 : t.size ≤ maxLen ∧ p.1 = .string t.data.toList := by
  simp [keyOf, Tryz.underlying9, mapKey] at hk
  exact ⟨hk.1, hk.2.symm⟩
 have hst : s = t.data.toList := by rw [← hps, hk2.2]; rfl
 have hlen : s.length = t.size := by rw [hst]; exact Array.length_toList
 refine ⟨by rw [hlen]; exact hk2.1, ?_⟩
 have hf : ∃ q, ((es.toList.map (rg Tryz.prog 9 ptrR)).foldr DataW.insert []).find? (fun p => p.1.sameKey (.string s)) = some q := by
  cases hq : ((es.toList.map (rg Tryz.prog 9 ptrR)).foldr DataW.insert []).find? (fun p => p.1.sameKey (.string s)) with
  | some q => exact ⟨q, rfl⟩
  | none =>
   have := List.find?_eq_none.1 hq p hp
   rw [hk2.2, hst] at this
   simp [Lit.sameKey] at this
 obtain ⟨q, hq⟩ := hf
 obtain ⟨f, hf, _⟩ := hg q (List.mem_of_find?_eq_some hq)
 exact ⟨f, by simp [fileAt, DataW.atKey, hq, hf]⟩

end Go.Proofs.YtlpkphdgadgmiaaGreatDoor.V
