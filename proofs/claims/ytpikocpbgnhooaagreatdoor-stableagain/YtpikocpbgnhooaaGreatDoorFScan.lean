/- Scan. -/
import Derived.Test.YtpikocpbgnhooaaGreatDoorFIter
namespace Go.Proofs.YtpikocpbgnhooaaGreatDoor.F
open Go.RowKit Go.Maps Go.Shelf
set_option linter.unusedVariables false
set_option linter.unusedSimpArgs false
set_option maxRecDepth 100000
attribute [local go_sem] Oper.semAt_some

theorem info45 : (Tryz.prog.info? 62).map (fun i => (i.zero, i.size, i.bytes)) = some (some (.agg #[.int .i64 0, .slice none 0 0]), 2, 32) := by kernel_rfl

def cellsOf (s : List Fr) : List Value := s.flatMap fun f => [.int .i64 f.k.toNat, f.dv]
theorem cellsOf_snoc (s : List Fr) (f : Fr) : cellsOf (s ++ [f]) = cellsOf s ++ [.int .i64 f.k.toNat, f.dv] := by simp [cellsOf]
theorem len_endOf (s : List Fr) : s.length * 9 ≤ endOf s := by
  induction s with
  | nil => simp [endOf]
  | cons f s ih => simp [endOf] at ih ⊢; omega

/-- A block of one cell. -/
def Box (W : World) (b : Nat) (t : TypeId) (v : Value) : Prop := W.heap[b]? = some (.cells #[v] t (0, 0))
theorem Box.cell {W : World} {b : Nat} {t : TypeId} {v : Value} (h : Box W b t v) : W.cell? ⟨b, 0, none⟩ = some v := by rw [cell_of_row _ _ _ _ _ _ h]; rfl
theorem Box.frozen {W : World} {b : Nat} {t : TypeId} {v : Value} (h : Box W b t v) : W.frozen? ⟨b, 0, none⟩ = false := by unfold Box at h; simp [World.frozen?, h]
theorem Box.set {W : World} {b : Nat} {t : TypeId} {v : Value} (h : Box W b t v) (u : Value) : Box (W.setCell ⟨b, 0, none⟩ u) b t u := by
  unfold Box at *; simp [World.setCell, Array.getElem?_modify, h]
theorem blk_kept {W W' : World} {row : Option Nat} {b : Nat} {o : Obj} (h : W.heap[b]? = some o) (hg : W.grownBy W' row) (hne : some b ≠ row) : W'.heap[b]? = some o :=
  (hg.block b (Array.getElem?_eq_some_iff.1 h).1 hne).trans h
/-- A block that another step turned is no block of another kind. -/
theorem ne_tag {W : World} {b r : Nat} {c c' : Array Value} {t t' : TypeId} {f f' : Nat × Nat} (h : W.heap[b]? = some (.cells c t f)) (hr : W.heap[r]? = some (.cells c' t' f')) (ht : t ≠ t') : some b ≠ some r := by
  intro e; cases e; rw [h] at hr; cases hr; exact ht rfl

/-- Frames in a row of one's own. -/
def Row (W : World) (n₀ : Nat) (lv : Value) (s : List Fr) : Prop := W.ownsRow n₀ 62 2 lv s.length (cellsOf s) ∧ ∀ f ∈ s, Own W n₀ f.dv f.d
theorem owns_kept {W W' : World} {B : Nat} {e : TypeId} {size : Nat} {v : Value} {n : Nat} {xs : List Value} {row : Option Nat} (h : W.ownsRow B e size v n xs) (hg : W.grownBy W' row) (hr : ∀ g cur, W.heap[g]? = some (.cells cur e (0, 0)) → some g ≠ row) : W'.ownsRow B e size v n xs := by
  refine ⟨h.1, ?_⟩
  rcases h.2 with hn | ⟨g, cap, cur, hv, hb, hh, rest⟩
  · exact .inl hn
  · exact .inr ⟨g, cap, cur, hv, hb, blk_kept hh hg (hr g cur hh), rest⟩
theorem Row.kept {W W' : World} {n₀ : Nat} {lv : Value} {s : List Fr} {row : Option Nat} (h : Row W n₀ lv s) (hg : W.grownBy W' row) (hr : ∀ g cur t, (t = 62 ∨ t = 5) → W.heap[g]? = some (.cells cur t (0, 0)) → some g ≠ row) : Row W' n₀ lv s :=
  ⟨owns_kept h.1 hg (fun g cur hh => hr g cur 62 (.inl rfl) hh), fun f hf => owns_kept (h.2 f hf) hg (fun g cur hh => hr g cur 5 (.inr rfl) hh)⟩

/-- Between two rounds. -/
structure Inv (w : World) (v : Value) (bs : List UInt8) (s : List Fr) (W : World) : Prop where
  box : ∃ lv, Box W w.heap.size 58 lv ∧ Row W w.heap.size lv s
  fin : Box W (w.heap.size + 1) 3 (.int .i64 (endOf s : Nat))
  src : Box W (w.heap.size + 2) 24 v
  grown : w.grownBy W none
  le : endOf s ≤ bs.length

theorem Inv.kept {w : World} {v : Value} {bs : List UInt8} {s : List Fr} {W W' : World} {row : Option Nat} (h : Inv w v bs s W) (hg : W.grownBy W' row) (hr : ∀ r, row = some r → w.heap.size ≤ r ∧ ∃ o : Obj, W.heap[r]? = some o ∧ o.isCells = false) : Inv w v bs s W' := by
  have hne : ∀ {g : Nat} {c : Array Value} {t : TypeId} {f : Nat × Nat}, W.heap[g]? = some (.cells c t f) → some g ≠ row := fun hh e => by
    obtain ⟨_, o, ho, hc⟩ := hr _ e.symm
    rw [hh] at ho; cases ho; cases hc
  obtain ⟨lv, hb, hrow⟩ := h.box
  refine ⟨⟨lv, blk_kept hb hg (hne hb), hrow.kept hg (fun g cur t _ hh => hne hh)⟩, blk_kept h.fin hg (hne h.fin), blk_kept h.src hg (hne h.src), ?_, h.le⟩
  cases row with
  | none => exact grown_trans h.grown hg
  | some r => exact grown_new h.grown hg (hr r rfl).1

theorem cell_two_new (w : World) (x y : Value) (t : TypeId) : ∀ j u, [x, y][j]? = some u → (w.alloc (.cells #[x, y] t)).cell? ((⟨w.heap.size, 0, none⟩ : Addr).add j) = some u := by
  intro j u hj
  have hadd : ((⟨w.heap.size, 0, none⟩ : Addr).add j) = ⟨w.heap.size, j, none⟩ := by unfold Addr.add; split <;> simp_all
  rw [hadd, cell_of_row _ _ _ _ _ _ (heap_alloc_new w (.cells #[x, y] t))]
  match j, hj with
  | 0, hj => simpa using hj
  | 1, hj => simpa using hj

theorem results3 {tmps : Array Value} {w : World} {b c : Nat} {lv ev : Value} (h2 : tmps.getD 2 undef = .pointer (some ⟨b, 0, none⟩)) (h3 : tmps.getD 3 undef = .pointer (some ⟨c, 0, none⟩)) (hb : Box w b 58 lv) (hc : Box w c 3 ev) :
    (results Tryz.f30 tmps).run Tryz.prog w = .ok (.tuple #[lv, ev, tmps.getD 4 undef]) w := by
  have c1 := hb.cell
  have c2 := hc.cell
  have r1 : (loadVar 58 ⟨b, 0, none⟩).run Tryz.prog w = .ok lv w := by simp [loadVar, go_sem, c1]
  have r2 : (loadVar 3 ⟨c, 0, none⟩).run Tryz.prog w = .ok ev w := by simp [loadVar, go_sem, c2]
  have e : Tryz.f30.results = #[.cell 2 58, .cell 3 3, .tmp 4] := rfl
  simp only [results, e]
  have h2' : tmps[2]?.getD undef = .pointer (some ⟨b, 0, none⟩) := by simpa using h2
  have h3' : tmps[3]?.getD undef = .pointer (some ⟨c, 0, none⟩) := by simpa using h3
  simp [h2', h3', asAddr, Sem.run_bind, Result.andThen, r1, r2]

end Go.Proofs.YtpikocpbgnhooaaGreatDoor.F
