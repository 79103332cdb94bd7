/- A reader: the program's calls. -/
import Derived.Test.YtckblgpalbedhaaWRd
namespace Go.Proofs.Ytckblgpalbedhaa.W
open Go.RowKit Go.Maps
set_option linter.unusedVariables false
set_option linter.unusedSimpArgs false

/-- Bytes in blocks from M on and below N. -/
def InB (M N : Nat) (v : Value) (l : List UInt8) : Prop := 0 < l.length → ∃ b off n cap, v = .slice (some ⟨b, off, none⟩) n cap ∧ M ≤ b ∧ b < N
structure BytIn (w : World) (M N : Nat) (v : Value) (l : List UInt8) : Prop where
  byt : Byt w v l
  inb : InB M N v l
theorem BytIn.kept {w w' : World} {M N : Nat} {v : Value} {l : List UInt8} (h : BytIn w M N v l) {row : Option Nat} (hg : w.grownBy w' row) (hr : ∀ r, row = some r → r < M ∨ N ≤ r) : BytIn w' M N v l := by
  refine ⟨?_, h.inb⟩
  by_cases h0 : 0 < l.length
  · obtain ⟨b, off, n, cap, rfl, hM, hN⟩ := h.inb h0
    obtain ⟨b', off', cap', e, hcap, hc⟩ := h.byt.at h0
    cases e
    refine .inr ⟨b, off, cap, rfl, hcap, fun j u hj => hg.cell (hc j u hj) (fun e => ?_)⟩
    have := hr b e.symm
    omega
  · rcases h.byt with hh | ⟨b, off, cap, e, hcap, hc⟩
    · exact .inl hh
    · exact .inr ⟨b, off, cap, e, hcap, fun j u hj => by have := (List.getElem?_eq_some_iff.1 hj).1; omega⟩
theorem BytIn.wide {w : World} {M N M' N' : Nat} {v : Value} {l : List UInt8} (h : BytIn w M N v l) (hM : M' ≤ M) (hN : N ≤ N') : BytIn w M' N' v l :=
  ⟨h.byt, fun h0 => by obtain ⟨b, off, n, cap, e, h1, h2⟩ := h.inb h0; exact ⟨b, off, n, cap, e, by omega, by omega⟩⟩
theorem Byt.inb {w : World} {v : Value} {l : List UInt8} (h : Byt w v l) : BytIn w 0 w.heap.size v l := by
  refine ⟨h, fun h0 => ?_⟩
  obtain ⟨b, off, cap, rfl, _, hc⟩ := h.at h0
  exact ⟨b, off, _, cap, rfl, Nat.zero_le _, World.block_lt_of_cell? w ⟨b, off + 0, none⟩ (hc 0 l[0] (by simp))⟩
theorem Own.inb {w : World} {B : Nat} {v : Value} {l : List UInt8} (h : Own w B v l) : BytIn w B w.heap.size v l := by
  refine ⟨h.byt, fun h0 => ?_⟩
  obtain ⟨g, cap, cur, rfl, hB, hg, _⟩ := h.at h0
  exact ⟨g, 0, _, cap, rfl, hB, (Array.getElem?_eq_some_iff.1 hg).1⟩
theorem BytIn.l {w : World} {M N : Nat} {v : Value} {l : List UInt8} (h : BytIn w M N v l) (i : Nat) (hi : i ≤ l.length) :
    ∃ a' cap', (∀ w', (Instr.slice 42 v (some (.int .i64 i)) none none).run Try.prog w' = .ok (.slice a' (l.length - i) cap') w') ∧ BytIn w M N (.slice a' (l.length - i) cap') (l.drop i) := by
  obtain ⟨a', cap', hr, hb⟩ := h.byt.l i hi
  refine ⟨a', cap', hr, hb, fun h0 => ?_⟩
  have h0' : 0 < l.length := by simp at h0; omega
  obtain ⟨b, off, n, cap, rfl, hM, hN⟩ := h.inb h0'
  obtain ⟨b', off', cap2, e, _, _⟩ := h.byt.at h0'
  injection e with e1 e2 e3
  subst e2
  have hr := hr w
  rw [run_slice_l w 42 _ l.length cap under22 .i64 i (by omega) (by omega), elem22, Try.sizeOf5 w] at hr
  simp only [Result.andThen, Int.toNat_natCast, sliced] at hr
  injection hr with hr
  injection hr with hr
  rw [← hr]
  refine ⟨b, if cap = i then off else off + i, l.length - i, cap', ?_, hM, hN⟩
  split <;> simp [Addr.add]

/-- A reader that was made. -/
structure Rd (w : World) (M N b : Nat) (s : St) : Prop where
  lo : M ≤ b
  hi : b < N
  blk : ∃ rv, w.heap[b]? = some (.cells #[.int .i64 s.e, .bool true, rv] 100 (0, 0)) ∧ BytIn w M N rv s.rest
theorem Rd.kept {w w' : World} {M N b : Nat} {s : St} (h : Rd w M N b s) {row : Option Nat} (hg : w.grownBy w' row) (hr : ∀ r, row = some r → r < M ∨ N ≤ r) : Rd w' M N b s := by
  obtain ⟨hM, hN, rv, hb, hy⟩ := h
  refine ⟨hM, hN, rv, (hg.block b (Array.getElem?_eq_some_iff.1 hb).1 (fun e => ?_)).trans hb, hy.kept hg hr⟩
  have := hr b e.symm
  omega
theorem Rd.wide {w : World} {M N M' N' b : Nat} {s : St} (h : Rd w M N b s) (hM : M' ≤ M) (hN : N ≤ N') : Rd w M' N' b s := by
  obtain ⟨h1, h2, rv, hb, hy⟩ := h
  exact ⟨by omega, by omega, rv, hb, hy.wide hM hN⟩
theorem Rd.cells {w : World} {M N b : Nat} {s : St} (h : Rd w M N b s) : ∃ a c, w.cell? ⟨b, 0, none⟩ = some (.int .i64 s.e) ∧ w.cell? ⟨b, 1, none⟩ = some (.bool true) ∧ w.cell? ⟨b, 2, none⟩ = some (.slice a s.rest.length c) ∧ BytIn w M N (.slice a s.rest.length c) s.rest ∧
    w.heap[b]? = some (.cells #[.int .i64 s.e, .bool true, .slice a s.rest.length c] 100 (0, 0)) := by
  obtain ⟨_, _, rv, hb, hy⟩ := h
  obtain ⟨a, c, rfl⟩ := hy.byt.len
  exact ⟨a, c, by rw [cell_of_row _ _ _ _ _ _ hb]; rfl, by rw [cell_of_row _ _ _ _ _ _ hb]; rfl, by rw [cell_of_row _ _ _ _ _ _ hb]; rfl, hy, hb⟩

theorem err_nil (w : World) : Calls Try.prog 70 #[.pointer none] w fun e w' => e = .returned (.int .i64 1) ∧ w' = w := by
  go_enter Try.func70, Try.ntmps70
  go_wp2
  go_ret
  exact ⟨rfl, rfl⟩
theorem err_raw (b : Nat) (w : World) (h : w.cell? ⟨b, 1, none⟩ = some (.bool false)) : Calls Try.prog 70 #[.pointer (some ⟨b, 0, none⟩)] w fun e w' => e = .returned (.int .i64 1) ∧ w' = w := by
  go_enter Try.func70, Try.ntmps70
  go_wp2
  go_ret
  exact ⟨rfl, rfl⟩
theorem err_rd (M N b : Nat) (s : St) (w : World) (h : Rd w M N b s) : Calls Try.prog 70 #[.pointer (some ⟨b, 0, none⟩)] w fun e w' => e = .returned (.int .i64 s.e) ∧ w' = w := by
  obtain ⟨a, c, c0, c1, c2, _, _⟩ := h.cells
  clear h
  go_enter Try.func70, Try.ntmps70
  go_wp2
  go_ret
  exact ⟨rfl, rfl⟩
theorem end_bad (p : Value) (w : World) (h : Calls Try.prog 70 #[p] w fun e w' => e = .returned (.int .i64 1) ∧ w' = w) : Calls Try.prog 68 #[p] w fun e w' => e = .returned (.int .i64 1) ∧ w' = w := by
  have H := hid_mk h
  clear h
  go_enter Try.func68, Try.ntmps68
  go_wp2_with fail
  refine H.out.mono ?_
  rintro e w' ⟨rfl, rfl⟩
  go_wp2
  go_ret
  exact ⟨rfl, rfl⟩
theorem end_rd (M N b : Nat) (s : St) (w : World) (h : Rd w M N b s) : Calls Try.prog 68 #[.pointer (some ⟨b, 0, none⟩)] w fun e w' => e = .returned (.int .i64 (endE s)) ∧ w' = w := by
  obtain ⟨a, c, c0, c1, c2, _, _⟩ := h.cells
  have H := hid_mk h
  have HE := hid_mk (show endE s = if s.e ≠ 0 then s.e else if 0 < s.rest.length then 21 else 0 from rfl)
  clear h
  generalize endE s = E at *
  by_cases he : s.e = 0
  · by_cases h0 : s.rest.length = 0
    · have HX := hid_mk (show E = 0 by rw [HE.out]; simp [he, h0])
      go_enter Try.func68, Try.ntmps68
      go_wp2_with (go_at_call 70; refine (err_rd M N b s w H.out).mono ?_; rintro e wx ⟨rfl, rfl⟩)
      go_ret
      exact ⟨ret_int (by rw [HX.out]; rfl), rfl⟩
    · have h0' : 0 < (s.rest.length : Int) := by omega
      have HX := hid_mk (show E = 21 by rw [HE.out]; rw [if_neg (by omega), if_pos (by omega)])
      go_enter Try.func68, Try.ntmps68
      go_wp2_with (go_at_call 70; refine (err_rd M N b s w H.out).mono ?_; rintro e wx ⟨rfl, rfl⟩)
      go_ret
      exact ⟨ret_int (by rw [HX.out]; rfl), rfl⟩
  · have HX := hid_mk (show E = s.e by rw [HE.out, if_pos he])
    have he' : ((s.e : Int) == 0) = false := by simp; omega
    go_enter Try.func68, Try.ntmps68
    go_wp2_with (go_at_call 70; refine (err_rd M N b s w H.out).mono ?_; rintro e wx ⟨rfl, rfl⟩)
    go_ret
    exact ⟨ret_int (by rw [HX.out]), rfl⟩

/-- counted. -/
def cntErr (l : List UInt8) : Int := ((bytR l).2.2 : Nat)
theorem rd_ne {w : World} {b : Nat} {e : Int} {mk : Bool} {a0 : Option Addr} {n0 c0 : Nat} {ty : TypeId} (hb : w.heap[b]? = some (.cells #[.int .i64 e, .bool mk, .slice a0 n0 c0] ty (0, 0))) {v : Value} {l : List UInt8} (h : Byt w v l) (h0 : 0 < l.length) : ∀ ad n c, v = .slice (some ad) n c → ad.block ≠ b := by
  intro ad n c hv he
  obtain ⟨b', off, cap, e', _, hc⟩ := h.at h0
  rw [hv] at e'
  injection e' with e1 _ _
  injection e1 with e1
  subst e1
  simp only at he
  subst he
  have := hc 0 l[0] (by simp)
  rw [cell_of_row _ _ _ _ _ _ hb] at this
  match off, this with
  | 0, this => simp at this
  | 1, this => simp at this
  | 2, this => simp at this
  | k + 3, this => simp at this

theorem Rd.store {w : World} {M N b : Nat} {s : St} (h : Rd w M N b s) (e : Nat) (l : List UInt8) (a : Option Addr) (n c : Nat) (hy : BytIn w M N (.slice a n c) l) :
    Rd ((w.setCell ⟨b, 0, none⟩ (.int .i64 e)).setCell ⟨b, 2, none⟩ (.slice a n c)) M N b ⟨l, e⟩ := by
  obtain ⟨_, _, _, _, _, _, hb0⟩ := h.cells
  obtain ⟨h1, h2, rv, hb, _⟩ := h
  refine ⟨h1, h2, .slice a n c, by simp [World.setCell, Array.getElem?_modify, hb], ⟨?_, hy.inb⟩⟩
  have hg : w.grownBy ((w.setCell ⟨b, 0, none⟩ (.int .i64 e)).setCell ⟨b, 2, none⟩ (.slice a n c)) (some b) := grown_trans (grown_setCell _ _ _ _) (grown_setCell _ _ _ _)
  have hne := fun h0 => rd_ne hb0 hy.byt h0
  rcases hy.byt with hh | ⟨b', off', cap', e', hcap, hc⟩
  · exact .inl hh
  · refine .inr ⟨b', off', cap', e', hcap, fun j u hj => hg.cell (hc j u hj) (fun he => ?_)⟩
    have hj0 := (List.getElem?_eq_some_iff.1 hj).1
    injection he with he
    injection e' with e1 e2 e3
    exact hne (Nat.lt_of_le_of_lt (Nat.zero_le _) hj0) ⟨b', off', none⟩ n c (by rw [e1]) he

set_option maxHeartbeats 1000000 in
/-- pass. -/
theorem pass_any (M N b : Nat) (s : St) (sz e : Nat) (w : World) (h : Rd w M N b s) (h0 : s.e = 0) (hsz : sz ≤ s.rest.length) :
    Calls Try.prog 72 #[.pointer (some ⟨b, 0, none⟩), .int .i64 sz, .int .i64 e] w fun en w' => en = .returned (.tuple #[]) ∧ Rd w' M N b ⟨s.rest.drop sz, e⟩ ∧ w.grownBy w' (some b) := by
  obtain ⟨a, c, c0, c1, c2, hy, hb⟩ := h.cells
  obtain ⟨a', c', hsl, hy'⟩ := hy.l sz hsz
  have HS := hid_mk (h.store e (s.rest.drop sz) a' _ c' hy')
  rw [h0] at hb c0
  have f0 : w.frozen? ⟨b, 0, none⟩ = false := by simp [World.frozen?, hb]
  have hb1 : (w.setCell ⟨b, 0, none⟩ (.int .i64 e)).heap[b]? = some (.cells #[.int .i64 e, .bool true, .slice a s.rest.length c] 100 (0, 0)) := by simp [World.setCell, Array.getElem?_modify, hb]
  have f2 : (w.setCell ⟨b, 0, none⟩ (.int .i64 e)).frozen? ⟨b, 2, none⟩ = false := by simp [World.frozen?, hb1]
  have d2 : (w.setCell ⟨b, 0, none⟩ (.int .i64 e)).cell? ⟨b, 2, none⟩ = some (.slice a s.rest.length c) := by rw [cell_of_row _ _ _ _ _ _ hb1]; rfl
  have HK : Hid (Calls Try.prog 73 #[.pointer (some ⟨b, 0, none⟩), .int .i64 e] w fun en w' => en = .returned (.tuple #[]) ∧ w' = w.setCell ⟨b, 0, none⟩ (.int .i64 e)) := by
    apply hid_mk
    clear h hy hy' hsl HS hb1 f2 d2 hb
    go_enter Try.func73, Try.ntmps73
    go_wp2
    go_end0
    exact ⟨rfl, rfl⟩
  clear h hy hy' hb1 hb
  generalize hW : w.setCell ⟨b, 0, none⟩ (.int .i64 e) = W at *
  have HW := hid_mk hW
  clear hW
  go_enter Try.func72, Try.ntmps72
  go_wp2_with (go_at_call 73; refine HK.out.mono ?_; rintro en w1 ⟨rfl, rfl⟩)
  go_end0
  refine ⟨rfl, HS.out, grown_trans ?_ (grown_setCell _ _ _ _)⟩
  rw [← HW.out]; exact grown_setCell _ _ _ _

end Go.Proofs.Ytckblgpalbedhaa.W
