/- Messages: need, sure, fields. -/
import Derived.Test.YtliefofdlpljaaaDoorMixX
import Derived.Test.YtliefofdlpljaaaDoorEntF
import Derived.BigRegion
import Derived.Deep.DeepCutAuto
namespace Go.Proofs.YtliefofdlpljaaaDoor
open Go.RowKit Go.Maps
set_option linter.unusedVariables false
set_option linter.unusedSimpArgs false

structure Msg where
  kind : Int
  frm : Int
  dst : Int
  term : Int
  a : Int
  b : Int
  c : Int
  d : Int
  yes : Bool
  ents : List Ent
  srv : List Int
  data : List UInt8

def nums (m : Msg) : List Int := [m.kind, m.frm, m.dst, m.term, m.a, m.b, m.c, m.d]
def spanL : List (Int × Int) := [(1, 6), (0, 15), (0, 15), (1, 1099511627775), (0, 1099511627776), (0, 1099511627776), (0, 1099511627776), (0, 1099511627776)]
/-- The table of what numbers may be. -/
def Spans (w : World) : Prop := ∀ (k : Nat) p, spanL[k]? = some p → w.cell? ⟨0, 2 * k, none⟩ = some (.int .i64 p.1) ∧ w.cell? ⟨0, 2 * k + 1, none⟩ = some (.int .i64 p.2)
theorem Spans.kept {w w' : World} (h : Spans w) (hg : w.grownBy w' none) : Spans w' := fun k p hk => ⟨hg.cell (h k p hk).1 (by simp), hg.cell (h k p hk).2 (by simp)⟩

/-- How it gives up. -/
def upText : ByteArray := { data := #[97, 32, 109, 101, 115, 115, 97, 103, 101, 32, 116, 104, 97, 116, 32, 109, 97, 121, 32, 110, 111, 116, 32, 98, 101] }
def upChain : List PanicEntry := [{ v := .iface 9 (.string upText), recovered := false }]

theorem need_ok (w : World) : Calls Tryd.prog 44 #[.bool true] w fun e w' => e = .returned (.tuple #[]) ∧ w' = w := by
  go_enter Tryd.func44, Tryd.ntmps44
  go_wp2
  go_end0
  exact ⟨rfl, rfl⟩
theorem need_no (w : World) : Calls Tryd.prog 44 #[.bool false] w fun e w' => e = .panicked upChain ∧ w' = w := by
  go_enter Tryd.func44, Tryd.ntmps44
  go_wp2
  exact ⟨rfl, rfl, rfl⟩

theorem sureB_ok (v : Value) (w : World) : Calls Tryd.prog 45 #[v, .int .i64 0] w fun e w' => e = .returned v ∧ w' = w := by
  go_enter Tryd.func45, Tryd.ntmps45
  go_wp2_with (go_at_call 44; refine (need_ok _).mono ?_; rintro e wx ⟨rfl, hwx⟩; subst wx)
  go_ret
  exact ⟨rfl, rfl⟩
theorem sureB_no (v : Value) (x : Int) (w : World) (hx : ¬ x = 0) : Calls Tryd.prog 45 #[v, .int .i64 x] w fun e w' => e = .panicked upChain ∧ w' = w := by
  have h0 : (x == 0) = false := by simpa using hx
  go_enter Tryd.func45, Tryd.ntmps45
  go_wp2_with fail
  refine (need_no _).mono ?_
  rintro e wx ⟨rfl, rfl⟩
  go_wp2_with fail
  exact ⟨rfl, rfl, rfl⟩

def fldV (b : Nat) : Value := .agg #[.pointer (some ⟨b, 0, none⟩), .pointer (some ⟨b, 1, none⟩), .pointer (some ⟨b, 2, none⟩), .pointer (some ⟨b, 3, none⟩), .pointer (some ⟨b, 4, none⟩), .pointer (some ⟨b, 5, none⟩), .pointer (some ⟨b, 6, none⟩), .pointer (some ⟨b, 7, none⟩)]
theorem load73 (w : World) (b : Nat) (c0 c1 c2 c3 c4 c5 c6 c7 : Value) (h : w.heap[b]? = some (.cells #[c0, c1, c2, c3, c4, c5, c6, c7] 73 (0, 0))) : (loadVar 73 ⟨b, 0, none⟩).run Tryd.prog w = .ok (.agg #[c0, c1, c2, c3, c4, c5, c6, c7]) w := by
  have e : ∀ i, w.cell? ⟨b, i, none⟩ = (#[c0, c1, c2, c3, c4, c5, c6, c7] : Array Value)[i]? := fun i => cell_of_row _ _ _ _ _ _ h
  have h0 := e 0
  have h1 := e 1
  have h2 := e 2
  have h3 := e 3
  have h4 := e 4
  have h5 := e 5
  have h6 := e 6
  have h7 := e 7
  clear e
  simp at h0 h1 h2 h3 h4 h5 h6 h7
  simp [loadVar, go_sem, h0, h1, h2, h3, h4, h5, h6, h7]
theorem ret_fld {fn : Func} {p : Tmp} (h : fn.results = #[.cell p 73]) (tmps : Array Value) (w : World) (g b : Nat) (hp : tmps.getD p undef = .pointer (some ⟨g, 0, none⟩)) (hb : w.heap[g]? = some (.cells #[.pointer (some ⟨b, 0, none⟩), .pointer (some ⟨b, 1, none⟩), .pointer (some ⟨b, 2, none⟩), .pointer (some ⟨b, 3, none⟩), .pointer (some ⟨b, 4, none⟩), .pointer (some ⟨b, 5, none⟩), .pointer (some ⟨b, 6, none⟩), .pointer (some ⟨b, 7, none⟩)] 73 (0, 0))) :
    (results fn tmps).run Tryd.prog w = .ok (fldV b) w := by
  have ha : (asAddr (.pointer (some ⟨g, 0, none⟩))).run Tryd.prog w = .ok ⟨g, 0, none⟩ w := by simp [asAddr]
  rw [results_cell1 h, hp, ha]
  simp only [Result.andThen]
  rw [load73 w g _ _ _ _ _ _ _ _ hb]
  rfl
set_option maxRecDepth 100000 in
set_option maxHeartbeats 2000000 in
theorem fields_any (b : Nat) (w : World) : Calls Tryd.prog 43 #[.pointer (some ⟨b, 0, none⟩)] w fun e w' => e = .returned (fldV b) ∧ w.grownBy w' none := by
  go_enter Tryd.func43, Tryd.ntmps43
  go_wp2_with fail
  go_region
  go_wp2_with fail
  have hb := heap_alloc_new w (.cells #[.pointer (some ⟨b, 0, none⟩), .pointer (some ⟨b, 1, none⟩), .pointer (some ⟨b, 2, none⟩), .pointer (some ⟨b, 3, none⟩), .pointer (some ⟨b, 4, none⟩), .pointer (some ⟨b, 5, none⟩), .pointer (some ⟨b, 6, none⟩), .pointer (some ⟨b, 7, none⟩)] 73)
  exact bodyPost_ret (ret_fld (fn := Tryd.f43) rfl _ _ w.heap.size b rfl hb) rfl ⟨rfl, grown_trans (World.grownBy_alloc _ _ _) (grown_drew _ _)⟩

end Go.Proofs.YtliefofdlpljaaaDoor
