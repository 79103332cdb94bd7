/- machine in memory: its sessions, its records; what is left alone. -/
import Derived.Test.YtpncbehabfkhkaaNaA
import Derived.Maps.RangeWalk
namespace Go.Proofs.Ytpncbehabfkhkaa.W
open Go.RowKit Go.Maps Go.WideMaps Go.WideElems
set_option linter.unusedVariables false
set_option linter.unusedSimpArgs false
set_option maxRecDepth 100000

/-! ### Blocks -/
def Blk (w : World) (b : Nat) (cs : Array Value) (t : TypeId) : Prop := w.heap[b]? = some (.cells cs t (0, 0))
theorem Blk.cell {w : World} {b : Nat} {cs : Array Value} {t : TypeId} (h : Blk w b cs t) (i : Nat) : w.cell? ⟨b, i, none⟩ = cs[i]? := by
  rw [cell_of_row _ _ _ _ _ _ h]
theorem Blk.frozen {w : World} {b : Nat} {cs : Array Value} {t : TypeId} (h : Blk w b cs t) (i : Nat) : w.frozen? ⟨b, i, none⟩ = false := by
  unfold Blk at h; simp [World.frozen?, h]
theorem Blk.lt {w : World} {b : Nat} {cs : Array Value} {t : TypeId} (h : Blk w b cs t) : b < w.heap.size := (Array.getElem?_eq_some_iff.1 h).1
theorem Blk.kept {w w' : World} {b : Nat} {cs : Array Value} {t : TypeId} {row : Option Nat} (h : Blk w b cs t) (hg : w.grownBy w' row) (hne : some b ≠ row) : Blk w' b cs t := (hg.block b h.lt hne).trans h

/-- What lies in F may have turned, nothing else has. -/
structure Keeps (F : Nat → Prop) (w w' : World) : Prop where
  os : w'.os = w.os
  tape : w'.tape = w.tape
  output : w'.output = w.output
  size : w.heap.size ≤ w'.heap.size
  block : ∀ k, k < w.heap.size → ¬ F k → w'.heap[k]? = w.heap[k]?
theorem Keeps.refl (F : Nat → Prop) (w : World) : Keeps F w w := ⟨rfl, rfl, rfl, Nat.le_refl _, fun _ _ _ => rfl⟩
theorem Keeps.trans {F G : Nat → Prop} {a b c : World} (h : Keeps F a b) (k : Keeps G b c) (hG : ∀ i, i < a.heap.size → ¬ F i → ¬ G i) : Keeps F a c :=
  ⟨k.os.trans h.os, k.tape.trans h.tape, k.output.trans h.output, Nat.le_trans h.size k.size, fun i hi hn => (k.block i (Nat.lt_of_lt_of_le hi h.size) (hG i hi hn)).trans (h.block i hi hn)⟩
theorem Keeps.of_grown {F : Nat → Prop} {w w' : World} {row : Option Nat} (h : w.grownBy w' row) (hr : ∀ k, row = some k → k < w.heap.size → F k) : Keeps F w w' :=
  ⟨h.os, h.tape, h.output, h.size, fun k hk hn => h.block k hk (fun e => hn (hr k e.symm hk))⟩
theorem Keeps.mono {F G : Nat → Prop} {w w' : World} (h : Keeps F w w') (hF : ∀ k, F k → G k) : Keeps G w w' := ⟨h.os, h.tape, h.output, h.size, fun k hk hn => h.block k hk (fun e => hn (hF k e))⟩
theorem Keeps.of_none {F : Nat → Prop} {a b : World} (h : a.grownBy b none) : Keeps F a b := Keeps.of_grown h (fun k e _ => by cases e)
theorem Keeps.one {Z : Nat → Prop} {w w' : World} {b : Nat} (h : w.grownBy w' (some b)) (hb : Z b) : Keeps Z w w' := Keeps.of_grown h (fun k e _ => by cases e; exact hb)
/-- The blocks of a set, and all new ones. -/
def Up (Z : Nat → Prop) (w : World) (k : Nat) : Prop := Z k ∨ w.heap.size ≤ k
theorem Keeps.then {Z : Nat → Prop} {a b c : World} (h : Keeps Z a b) (k : Keeps (Up Z a) b c) : Keeps Z a c := h.trans k (fun i hi hn hh => by rcases hh with hh | hh; exact hn hh; omega)
theorem Keeps.thenZ {Z : Nat → Prop} {a b c : World} (h : Keeps Z a b) (k : Keeps Z b c) : Keeps Z a c := h.trans k (fun _ _ h => h)
theorem Keeps.grown {Z : Nat → Prop} {w a b : World} (hg : w.grownBy a none) (h : Keeps Z a b) (hZ : ∀ k, Z k → w.heap.size ≤ k) : w.grownBy b none :=
  ⟨h.os.trans hg.os, h.tape.trans hg.tape, h.output.trans hg.output, Nat.le_trans hg.size h.size, fun k hk _ => (h.block k (Nat.lt_of_lt_of_le hk hg.size) (fun e => by have := hZ k e; omega)).trans (hg.block k hk (by simp))⟩
theorem Blk.keeps {w w' : World} {F : Nat → Prop} {k : Nat} {cs : Array Value} {u : TypeId} (h : Blk w k cs u) (hk : Keeps F w w') (hn : ¬ F k) : Blk w' k cs u := (hk.block k h.lt hn).trans h
theorem byt_keeps {w w' : World} {F : Nat → Prop} {v : Value} {l : List UInt8} (h : Byt w v l) (hk : Keeps F w w') (hn : ∀ k, v.ownBlock = some k → k < w.heap.size → ¬ F k) : Byt w' v l := by
  rcases h with h | ⟨b, off, cap, rfl, hl, hc⟩
  · exact .inl h
  · refine .inr ⟨b, off, cap, rfl, hl, fun j u hj => ?_⟩
    have hcell := hc j u hj
    have hlt : b < w.heap.size := by
      by_cases hb : b < w.heap.size
      · exact hb
      · rw [World.cell?] at hcell
        simp [Array.getElem?_eq_none (Nat.le_of_not_lt hb)] at hcell
    have := hk.block b hlt (hn b rfl hlt)
    simpa [World.cell?, this] using hcell

/-! ### Sessions -/
structure Ses where
  n : Nat
  q : Nat
  r : Nat
  u : Nat
  f : Nat
/-- How an element reads: the number of the session's block. -/
def ptrR : Value → Option (DataW Unit × List MemPlace)
  | .pointer none => some (.lit (.int .i64 (-1)), [])
  | .pointer (some ⟨b, 0, none⟩) => some (.lit (.int .i64 b), [])
  | _ => none
theorem ptrR_some (b : Nat) : ptrR (.pointer (some ⟨b, 0, none⟩)) = some (.lit (.int .i64 b), []) := rfl
def ptrOf : Option Nat → Value
  | some f => .pointer (some ⟨f, 0, none⟩)
  | none => .pointer none
theorem ptrR_inv {v : Value} {d : DataW Unit} {ps : List MemPlace} (h : ptrR v = some (d, ps)) : (v = .pointer none ∧ d = .lit (.int .i64 (-1))) ∨ ∃ b : Nat, v = .pointer (some ⟨b, 0, none⟩) ∧ d = .lit (.int .i64 b) := by
  unfold ptrR at h
  split at h
  · cases h; exact .inl ⟨rfl, rfl⟩
  · cases h; exact .inr ⟨_, rfl, rfl⟩
  · cases h
def keyN (n : Nat) : Lit := .int .i64 n
def entM (s : Ses) : Lit × DataW Unit := (keyN s.n, .lit (.int .i64 (s.f : Nat)))
def dirM (l : List Ses) : DataW Unit := .map (l.map entM)
theorem key_same (a b : Nat) : (keyN a).sameKey (keyN b) = decide (a = b) := by
  show decide (IntKind.i64 = IntKind.i64 ∧ (a : Int) = b) = _
  by_cases h : a = b
  · subst h; simp
  · simp [h]; omega
theorem law3 : Keyed Try.prog 3 := int_keyed Try.underlying3
theorem hkey3 (n : Nat) (h : n ≤ 1099511627776) : keyOf Try.prog 3 (.int .i64 n) = some (keyN n) := keyOf_int_mk Try.underlying3 (by simp [Lit.wf, IntKind.min, IntKind.max, IntKind.bits, IntKind.signed]; omega)
/-- Which session a number is. -/
def sesAt (l : List Ses) (n : Nat) : Option Ses := l.find? fun s => s.n = n
theorem find_dir (l : List Ses) (n : Nat) : (l.map entM).find? (fun p => p.1.sameKey (keyN n)) = (sesAt l n).map entM := by
  unfold sesAt
  rw [List.find?_map]
  congr 1
  congr 1
  funext s
  simp [entM, key_same]
theorem atKey_dir (l : List Ses) (n : Nat) (z : DataW Unit) : (dirM l).atKey (keyN n) z = match sesAt l n with | some s => .lit (.int .i64 (s.f : Nat)) | none => z := by
  unfold dirM DataW.atKey
  simp only [find_dir]
  cases sesAt l n <;> rfl
theorem sesAt_some {l : List Ses} {n : Nat} {s : Ses} (h : sesAt l n = some s) : s ∈ l ∧ s.n = n := ⟨List.mem_of_find?_eq_some h, by simpa using List.find?_some h⟩
theorem sesAt_mem {l : List Ses} (ha : l.Pairwise fun s t => s.n < t.n) {s : Ses} (h : s ∈ l) : sesAt l s.n = some s := by
  induction l with
  | nil => cases h
  | cons x r ih =>
    rw [List.pairwise_cons] at ha
    unfold sesAt
    rw [List.find?_cons]
    rcases List.mem_cons.1 h with rfl | h
    · simp
    · have hne : ¬ x.n = s.n := by have := ha.1 s h; omega
      simp only [hne, decide_false, Bool.false_eq_true, if_false]
      exact ih ha.2 h
theorem del_dir (l : List Ses) (n : Nat) : (dirM l).del (keyN n) = dirM (l.filter fun s => !decide (s.n = n)) := by
  unfold dirM DataW.del
  simp only
  rw [List.filter_map]
  congr 2
  congr 1
  funext s
  simp [entM, key_same]
theorem insert_end {x : Lit × DataW Unit} : ∀ {es : List (Lit × DataW Unit)}, (∀ p ∈ es, x.1.before p.1 = false) → DataW.insert x es = es ++ [x]
  | [], _ => rfl
  | p :: es, h => by
    rw [DataW.insert, h p List.mem_cons_self]
    simp only [Bool.false_eq_true, if_false, List.cons_append]
    rw [insert_end (fun q hq => h q (List.mem_cons_of_mem _ hq))]
theorem put_dir (l : List Ses) (s : Ses) (h : ∀ t ∈ l, t.n < s.n) : (dirM l).put (keyN s.n) (.lit (.int .i64 (s.f : Nat))) = dirM (l ++ [s]) := by
  unfold dirM DataW.put
  simp only
  have hf : (l.map entM).filter (fun p => !p.1.sameKey (keyN s.n)) = l.map entM := by
    rw [List.filter_eq_self]
    intro p hp
    obtain ⟨t, ht, rfl⟩ := List.mem_map.1 hp
    have := h t ht
    simp [entM, key_same]
    omega
  rw [hf, insert_end]
  · rw [List.map_append]; rfl
  · intro p hp
    obtain ⟨t, ht, rfl⟩ := List.mem_map.1 hp
    have := h t ht
    show decide ((s.n : Int) < (t.n : Int)) = false
    simp; omega
theorem size_dir (l : List Ses) : Maps.size (dirM l) = l.length := by simp [dirM, Maps.size]

/-! ### A machine -/
structure Mach where
  sp : Nat
  ap : Nat
  st : Nat
  N : Nat
  bm : Nat
  rv : Value
  ss : List Ses
  rs : List (Value × List UInt8)
structure IsM (w : World) (Z : Nat → Prop) (b : Nat) (m : Mach) : Prop where
  blk : Blk w b #[.int .i64 m.sp, .int .i64 m.ap, .int .i64 m.st, m.rv, .map (some m.bm)] 63
  zb : Z b
  dir : w.ownsMap Try.prog 3 ptrR m.bm m.N (dirM m.ss)
  zm : Z m.bm
  ses : ∀ s ∈ m.ss, Blk w s.f #[.int .i64 s.q, .int .i64 s.r, .int .i64 s.u] 102 ∧ Z s.f
  inj : m.ss.Pairwise fun s t => s.f ≠ t.f
  asc : m.ss.Pairwise fun s t => s.n < t.n
  lim : ∀ s ∈ m.ss, s.n ≤ m.ap ∧ s.q ≤ 1099511627775 ∧ s.u ≤ m.ap
  row : RowO w 22 m.rv m.rs.length (m.rs.map Prod.fst)
  zr : ∀ k, m.rv.ownBlock = some k → Z k
  el : ∀ p ∈ m.rs, Byt w p.1 p.2 ∧ p.2.length ≤ 1024 ∧ ∀ k, p.1.ownBlock = some k → Z k ∧ ∃ c, w.heap[k]? = some (.cells c 5 (0, 0))
  span : 1 ≤ m.sp ∧ m.sp ≤ 1099511627776
  top : m.ap ≤ 1099511627775 ∧ m.st ≤ 1099511627775

theorem rows_keeps {w w' : World} {F : Nat → Prop} {B n sz : Nat} {e : TypeId} {v : Value} {xs : List Value} (h : w.ownsRow B e sz v n xs) (hk : Keeps F w w') (hF : ∀ k, v.ownBlock = some k → ¬ F k) : w'.ownsRow B e sz v n xs := by
  refine ⟨h.1, ?_⟩
  rcases h.2 with h | ⟨g, cap, cur, rfl, hB, hg, r⟩
  · exact .inl h
  · exact .inr ⟨g, cap, cur, rfl, hB, (hk.block g (Array.getElem?_eq_some_iff.1 hg).1 (hF g rfl)).trans hg, r⟩
theorem rowo_keeps {w w' : World} {F : Nat → Prop} {n : Nat} {e : TypeId} {v : Value} {xs : List Value} (h : RowO w e v n xs) (hk : Keeps F w w') (hF : ∀ k, v.ownBlock = some k → ¬ F k) : RowO w' e v n xs := by
  refine ⟨h.1, ?_⟩
  rcases h.2 with h | ⟨g, off, cap, cur, rfl, hg, r⟩
  · exact .inl h
  · exact .inr ⟨g, off, cap, cur, rfl, (hk.block g (Array.getElem?_eq_some_iff.1 hg).1 (hF g rfl)).trans hg, r⟩
theorem map_keeps {w w' : World} {F : Nat → Prop} {bm n : Nat} {D : DataW Unit} (h : w.ownsMap Try.prog 3 ptrR bm n D) (hk : Keeps F w w') (hn : ¬ F bm) : w'.ownsMap Try.prog 3 ptrR bm n D := by
  obtain ⟨es, clock, hb, r⟩ := h
  exact ⟨es, clock, (hk.block bm (Array.getElem?_eq_some_iff.1 hb).1 hn).trans hb, r⟩
/-- A machine that is left alone. -/
theorem IsM.keeps {w w' : World} {F Z : Nat → Prop} {b : Nat} {m : Mach} (h : IsM w Z b m) (hk : Keeps F w w') (hF : ∀ k, Z k → ¬ F k) : IsM w' Z b m :=
  { h with
    blk := h.blk.keeps hk (hF _ h.zb)
    dir := map_keeps h.dir hk (hF _ h.zm)
    ses := fun s hs => ⟨(h.ses s hs).1.keeps hk (hF _ (h.ses s hs).2), (h.ses s hs).2⟩
    row := rowo_keeps h.row hk (fun k e => hF _ (h.zr k e))
    el := fun p hp => ⟨byt_keeps (h.el p hp).1 hk (fun k e _ => hF _ ((h.el p hp).2.2 k e).1), (h.el p hp).2.1, fun k e => by
      obtain ⟨hz, c, hc⟩ := (h.el p hp).2.2 k e
      exact ⟨hz, c, (hk.block k (Array.getElem?_eq_some_iff.1 hc).1 (hF _ hz)).trans hc⟩⟩ }
theorem IsM.kept {w w' : World} {Z : Nat → Prop} {b : Nat} {m : Mach} (h : IsM w Z b m) (hg : w.grownBy w' none) : IsM w' Z b m := h.keeps (F := fun _ => False) (Keeps.of_none hg) (fun _ _ h => h)
theorem IsM.wide {w : World} {Z Z' : Nat → Prop} {b : Nat} {m : Mach} (h : IsM w Z b m) (hz : ∀ k, Z k → Z' k) : IsM w Z' b m :=
  { h with zb := hz _ h.zb, zm := hz _ h.zm, ses := fun s hs => ⟨(h.ses s hs).1, hz _ (h.ses s hs).2⟩, zr := fun k e => hz _ (h.zr k e), el := fun p hp => ⟨(h.el p hp).1, (h.el p hp).2.1, fun k e => ⟨hz _ ((h.el p hp).2.2 k e).1, ((h.el p hp).2.2 k e).2⟩⟩ }
theorem IsM.cells {w : World} {Z : Nat → Prop} {b : Nat} {m : Mach} (h : IsM w Z b m) : w.cell? ⟨b, 0, none⟩ = some (.int .i64 m.sp) ∧ w.cell? ⟨b, 1, none⟩ = some (.int .i64 m.ap) ∧ w.cell? ⟨b, 2, none⟩ = some (.int .i64 m.st) ∧ w.cell? ⟨b, 3, none⟩ = some m.rv ∧ w.cell? ⟨b, 4, none⟩ = some (.map (some m.bm)) ∧ ∀ j, w.frozen? ⟨b, j, none⟩ = false :=
  ⟨by rw [h.blk.cell]; rfl, by rw [h.blk.cell]; rfl, by rw [h.blk.cell]; rfl, by rw [h.blk.cell]; rfl, by rw [h.blk.cell]; rfl, fun j => h.blk.frozen j⟩

end Go.Proofs.Ytpncbehabfkhkaa.W
