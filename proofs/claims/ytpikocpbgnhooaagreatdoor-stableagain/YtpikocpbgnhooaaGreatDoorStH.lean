/- stable: Load. -/
import Derived.Test.YtpikocpbgnhooaaGreatDoorStG
namespace Go.Proofs.YtpikocpbgnhooaaGreatDoor.V
set_option maxRecDepth 100000
open Go.RowKit Go.Maps Go.WideMaps Go.WideElems
set_option linter.unusedVariables false
set_option linter.unusedSimpArgs false

theorem read_src {w' : World} {B : Nat} {v' : Value} {l : List UInt8} (h : w'.ownsRow B 5 1 v' l.length (u8s l)) : W.Own w' B v' l := h

/-- The three numbers that Load answers. -/
def VotePost (t f er : Int) (w : World) (e : Ending) (w' : World) : Prop := e = .returned (.tuple #[.agg #[.int .i64 t, .int .i64 f], .int .i64 er]) ∧ w.grownBy w' none
theorem vote_end {fn : Func} (hfn : fn.results = #[.cell 2 29, .tmp 3]) (w W1 : World) (t f er : Int) (tmps : Array Value) (h2 : tmps.getD 2 undef = .pointer (some ⟨w.heap.size, 0, none⟩)) (h3 : tmps.getD 3 undef = .int .i64 er) (hV : VB W1 w.heap.size 0 0) (hg : w.grownBy W1 none) :
    bodyPost Tryz.prog fn (VotePost t f er w) .ret { tmps := tmps, defers := [] } ((W1.setCell ⟨w.heap.size, 0, none⟩ (.int .i64 t)).setCell ⟨w.heap.size, 1, none⟩ (.int .i64 f)) := by
  refine bodyPost_ret (ret_vote hfn _ _ w.heap.size t f h2 (hV.laid t f)) rfl ⟨?_, ?_⟩
  · rw [h3]
  · exact W.grown_new (W.grown_new hg (grown_setCell _ _ _ _) (Nat.le_refl _)) (grown_setCell _ _ _ _) (Nat.le_refl _)

set_option maxHeartbeats 2000000 in
theorem load_one (a : Option Addr) (w : World) (hr : ∀ w', w.grownBy w' none → Calls Tryz.prog 21 #[.pointer a, .string nmV] w' fun e w'' => e = .returned (.tuple #[.slice none 0 0, .int .i64 1]) ∧ w'' = w') :
    Calls Tryz.prog 17 #[.pointer a] w (VotePost 0 0 1 w) := by
  have HG : Hid (VB (w.alloc (.cells #[.int .i64 0, .int .i64 0] 29)) w.heap.size 0 0 ∧ w.grownBy (w.alloc (.cells #[.int .i64 0, .int .i64 0] 29)) none) := hid_mk ⟨heap_alloc_new _ _, World.grownBy_alloc _ _ _⟩
  have HR := hid_mk (hr _ HG.out.2)
  clear hr
  go_enter Tryz.func17, Tryz.ntmps17
  go_wp2_with fail
  generalize (w.alloc (.cells #[.int .i64 0, .int .i64 0] 29)) = w0 at *
  refine HR.out.mono ?_
  rintro e w1 ⟨rfl, hw1⟩
  rw [hw1]
  clear hw1 HR
  obtain ⟨c0, c1, cf⟩ := HG.out.1.all
  go_wp2_with fail
  exact vote_end rfl w w0 0 0 1 _ rfl rfl HG.out.1 HG.out.2
set_option maxHeartbeats 2000000 in
theorem load_three (a : Option Addr) (w : World) (hr : ∀ w', w.grownBy w' none → Calls Tryz.prog 21 #[.pointer a, .string nmV] w' fun e w'' => e = .returned (.tuple #[.slice none 0 0, .int .i64 3]) ∧ w'' = w') :
    Calls Tryz.prog 17 #[.pointer a] w (VotePost 0 (-1) 0 w) := by
  have HG : Hid (VB (w.alloc (.cells #[.int .i64 0, .int .i64 0] 29)) w.heap.size 0 0 ∧ w.grownBy (w.alloc (.cells #[.int .i64 0, .int .i64 0] 29)) none) := hid_mk ⟨heap_alloc_new _ _, World.grownBy_alloc _ _ _⟩
  have HR := hid_mk (hr _ HG.out.2)
  clear hr
  go_enter Tryz.func17, Tryz.ntmps17
  go_wp2_with fail
  generalize (w.alloc (.cells #[.int .i64 0, .int .i64 0] 29)) = w0 at *
  refine HR.out.mono ?_
  rintro e w1 ⟨rfl, hw1⟩
  rw [hw1]
  clear hw1 HR
  obtain ⟨c0, c1, cf⟩ := HG.out.1.all
  go_wp2_with fail
  exact vote_end rfl w w0 0 (-1) 0 _ rfl rfl HG.out.1 HG.out.2
theorem load_nil (w : World) : Calls Tryz.prog 17 #[.pointer none] w (VotePost 0 0 1 w) := load_one none w (fun w' _ => read_nil nmV w')
theorem load_zero (b : Nat) (w : World) (h : w.cell? ⟨b, 3, none⟩ = some (.map none)) : Calls Tryz.prog 17 #[.pointer (some ⟨b, 0, none⟩)] w (VotePost 0 0 1 w) := load_one _ w (fun w' hg => read_zero b nmV w' (hg.cell h (by simp)))
theorem load_none (N b : Nat) (F : Nat → Prop) (m : Mem) (w : World) (h : IsDisk w F N b m) (hf : fileAt m.names (key nmV) = none) : Calls Tryz.prog 17 #[.pointer (some ⟨b, 0, none⟩)] w (VotePost 0 (-1) 0 w) :=
  load_three _ w (fun w' hg => read_none N b F m nmV w' (h.kept_none hg) size_V right_V hf)

set_option maxHeartbeats 2000000 in
theorem load_file (w : World) (ht : F.Tab w) (N b : Nat) (F : Nat → Prop) (m : Mem) (h : IsDisk w F N b m) (f : Nat) (x : FileG) (hf : fileAt m.names (key nmV) = some f) (hx : m.files f = some x) :
    Calls Tryz.prog 17 #[.pointer (some ⟨b, 0, none⟩)] w (VotePost (gV x.data).1 (gV x.data).2.1 (gV x.data).2.2 w) := by
  have HG : Hid (VB (w.alloc (.cells #[.int .i64 0, .int .i64 0] 29)) w.heap.size 0 0 ∧ w.grownBy (w.alloc (.cells #[.int .i64 0, .int .i64 0] 29)) none) := hid_mk ⟨heap_alloc_new _ _, World.grownBy_alloc _ _ _⟩
  have HR := hid_mk (read_ok N b F m nmV f x _ (h.kept_none HG.out.2) size_V right_V hf hx)
  have HL := hid_mk (show x.data.length ≤ 1048576 from (h.rest.file f x hx).2.2.2.2.2)
  have HT := hid_mk ht
  clear h hf hx ht
  go_enter Tryz.func17, Tryz.ntmps17
  go_wp2_with fail
  generalize (w.alloc (.cells #[.int .i64 0, .int .i64 0] 29)) = w0 at *
  refine HR.out.mono ?_
  rintro e w1 ⟨v1, rfl, ho, hg⟩
  obtain ⟨a1, c1, rfl⟩ := (read_src ho).len
  have H1 := hid_mk (And.intro (read_src ho).byt (show w.grownBy w1 none from grown_trans HG.out.2 hg))
  have HV := hid_mk (show VB w1 w.heap.size 0 0 from Blk.kept HG.out.1 hg (by simp))
  clear ho hg HR HG
  go_wp2_with fail
  refine (get_any _ x.data w1 H1.out.1 (HT.out.kept H1.out.2) (by have := HL.out; omega)).mono ?_
  rintro e w2 ⟨rfl, hg⟩
  have H2 := hid_mk (show VB w2 w.heap.size 0 0 ∧ w.grownBy w2 none from ⟨Blk.kept HV.out hg (by simp), grown_trans H1.out.2 hg⟩)
  clear hg HV
  obtain ⟨q, hq⟩ : ∃ q, gV x.data = q := ⟨_, rfl⟩
  obtain ⟨t, f, er⟩ := q
  rw [hq]
  have HQ := hid_mk hq
  clear hq
  obtain ⟨c0, c1, cf⟩ := H2.out.1.all
  go_wp2_with fail
  rw [HQ.out]
  exact vote_end rfl w w2 t f er _ rfl rfl H2.out.1 H2.out.2

/-- A Vote's bytes are got as it. -/
theorem gV_put {t f : Int} (h : mayB t f = true) : gV (voteB t f) = (t, f, 0) := by
  obtain ⟨h1, h2, h3, h4⟩ := mayB_iff.1 h
  have e1 : W.readN ⟨W.numB t.toNat ++ W.numB (f + 1).toNat, 0⟩ = (t.toNat, ⟨W.numB (f + 1).toNat, 0⟩) := W.readN_put (by omega) _
  have e2 : W.readN ⟨W.numB (f + 1).toNat, 0⟩ = ((f + 1).toNat, ⟨[], 0⟩) := by
    have := W.readN_put (n := (f + 1).toNat) (by omega) []
    rwa [List.append_nil] at this
  have hl : (W.numB t.toNat ++ W.numB (f + 1).toNat).length ≤ 65536 := by
    rw [List.length_append]
    have := W.numB_le (n := t.toNat) (by omega)
    have := W.numB_le (n := (f + 1).toNat) (by omega)
    omega
  have e3 : F.scanB (voteB t f) = ([(4, W.numB t.toNat ++ W.numB (f + 1).toNat)], (voteB t f).length) := by
    have := F.scanB_put 4 (W.numB t.toNat ++ W.numB (f + 1).toNat) [] hl
    rw [List.append_nil, F.scanB_nil] at this
    unfold voteB
    rw [this, F.putB_len]
    rfl
  have e4 : ((t.toNat : Nat) : Int) = t := by omega
  have e5 : (((f + 1).toNat : Nat) : Int) - 1 = f := by omega
  unfold gV
  rw [e3]
  show (if _ then _ else _) = _
  rw [e1]
  simp only [e2]
  rw [e4, e5, if_pos ⟨trivial, trivial, rfl, h⟩]

/-- What Load tells where the vote v lasts. -/
def toldV : Option (List UInt8) → Int × Int × Int
  | none => (0, -1, 0)
  | some l => gV l
theorem load_fine (w : World) (ht : F.Tab w) (N b : Nat) (F : Nat → Prop) (m : Mem) (h : IsDisk w F N b m) (v : Option (List UInt8)) (c : Option Nat) (hf : Fine m v c) :
    Calls Tryz.prog 17 #[.pointer (some ⟨b, 0, none⟩)] w (VotePost (toldV v).1 (toldV v).2.1 (toldV v).2.2 w) := by
  obtain ⟨a, hn, _, hv, _⟩ := hf.there
  cases v with
  | none =>
    have : a = none := hv
    exact load_none N b F m w h (by rw [hn, dir_V]; exact this)
  | some l =>
    obtain ⟨f, x, ha, hx, hd, _⟩ := hv
    have := load_file w ht N b F m h f x (by rw [hn, dir_V]; exact ha) hx
    rw [hd] at this
    exact this

end Go.Proofs.YtpikocpbgnhooaaGreatDoor.V
