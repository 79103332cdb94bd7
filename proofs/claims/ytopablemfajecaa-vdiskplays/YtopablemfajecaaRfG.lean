/- The document's disk: change, Cut, New. -/
import Derived.Test.YtopablemfajecaaRfF
import Derived.Test.YtopablemfajecaaTexts
namespace Go.Proofs.Ytopablemfajecaa
open Go.RowKit Go.Maps Go.WideMaps Go.WideElems
set_option linter.unusedVariables false
set_option linter.unusedSimpArgs false
set_option maxRecDepth 100000

theorem noTag_rows {w : World} {B size : Nat} {v : Value} {n : Nat} {xs : List Value} {e u : TypeId} (h : w.ownsRow B e size v n xs) (hne : u ≠ e) : NoTag w v.ownBlock u := by
  rcases h.2 with ⟨rfl, _⟩ | ⟨g, cap, cur, rfl, _, hg, _⟩
  · exact noTag_none w u
  · exact noTag_blk (cs := cur) hg hne
theorem row_lt {w : World} {B : Nat} {e : TypeId} {size : Nat} {v : Value} {n : Nat} {xs : List Value} (h : w.ownsRow B e size v n xs) {k : Nat} (hk : v.ownBlock = some k) : k < w.heap.size := by
  rcases h.2 with ⟨rfl, _⟩ | ⟨g, cap, cur, rfl, _, hg, _⟩
  · cases hk
  · cases hk; exact Blk.lt (cs := cur) hg
theorem row_to0 {w : World} {B : Nat} {e : TypeId} {size : Nat} {v : Value} {n : Nat} {xs : List Value} (h : w.ownsRow B e size v n xs) : w.ownsRow 0 e size v n xs := row_base h (Nat.zero_le _)
theorem chgCells_app (a b : List Chg) : chgCells (a ++ b) = chgCells a ++ chgCells b := by simp [chgCells]
theorem info89 : (Try.prog.info? 89).map (fun i => (i.zero, i.size, i.bytes)) = some (some (.agg #[.int .i64 0, .string ByteArray.empty, .string ByteArray.empty, .int .i64 0]), 4, 48) := by kernel_rfl
theorem IsRef.monoF {w : World} {F G : Nat → Prop} {N b : Nat} {r : RMem} (h : IsRef w F N b r) (hF : ∀ k, F k → G k) : IsRef w G N b r :=
  { h with
    fB := hF _ h.fB
    fF := fun k hk => hF _ (h.fF k hk)
    byts := fun f hf => ⟨(h.byts f hf).1, fun k hk => hF _ ((h.byts f hf).2.1 k hk), (h.byts f hf).2.2⟩
    dF := fun k hk => hF _ (h.dF k hk)
    sF := fun k hk => hF _ (h.sF k hk)
    cF := fun k hk => hF _ (h.cF k hk) }
theorem IsRef.monoN {w : World} {F : Nat → Prop} {N N' b : Nat} {r : RMem} (h : IsRef w F N b r) (hN : N ≤ N') : IsRef w F N' b r :=
  { h with nF := Nat.le_trans h.nF hN, nD := Nat.le_trans h.nD hN, nS := Nat.le_trans h.nS hN }
/-- A row of changes has turned (or none): the others stay. -/
theorem IsRef.changed {w w' : World} {F : Nat → Prop} {N b : Nat} {r : RMem} (h : IsRef w F N b r) (hg : w.grownBy w' r.cv.ownBlock) (cv : Value) (chs : List Chg) (hr : w'.ownsRow 0 89 4 cv chs.length (chgCells chs)) (hF : ∀ k, cv.ownBlock = some k → F k) (hN : r.sure.length + chs.length ≤ N) (w'' : World) (hg2 : w'.grownBy w'' (some b)) (hd : RDsk w'' b { r with cv := cv, chs := chs }) : IsRef w'' F N b { r with cv := cv, chs := chs } := by
  have t : ∀ u, u ≠ 89 → NoTag w r.cv.ownBlock u := fun u hu => noTag_rows h.chs hu
  have hb : Blk w' b _ 67 := h.dsk.keptN hg (t 67 (by decide))
  exact { h with
    dsk := hd
    files := rowsKept (rowsKept h.files hg (t 91 (by decide))) hg2 (noTag_blk hb (by decide))
    byts := fun f hf => ⟨rowsKept (rowsKept (h.byts f hf).1 hg (t 5 (by decide))) hg2 (noTag_blk hb (by decide)), (h.byts f hf).2⟩
    dir := (h.dir.kept hg (t 94 (by decide))).kept hg2 (noTag_blk hb (by decide))
    sure := (h.sure.kept hg (t 94 (by decide))).kept hg2 (noTag_blk hb (by decide))
    chs := rowsKept hr hg2 (noTag_blk hb (by decide))
    cF := hF
    nS := hN }
/-- The directory is another one. -/
theorem IsRef.dired {w w' : World} {F : Nat → Prop} {N b : Nat} {r : RMem} (h : IsRef w F N b r) (dv : Value) (dir : List (ByteArray × Nat)) (hr : NmO w 0 dv dir) (hF : ∀ k, dv.ownBlock = some k → F k) (hs : ∀ k, dv.ownBlock = some k → r.sv.ownBlock ≠ some k) (hN : dir.length ≤ N) (hg2 : w.grownBy w' (some b)) (hd : RDsk w' b { r with dv := dv, dir := dir }) : IsRef w' F N b { r with dv := dv, dir := dir } := by
  have hb : Blk w b _ 67 := h.dsk
  exact { h with
    dsk := hd
    files := rowsKept h.files hg2 (noTag_blk hb (by decide))
    byts := fun f hf => ⟨rowsKept (h.byts f hf).1 hg2 (noTag_blk hb (by decide)), (h.byts f hf).2⟩
    dir := hr.kept hg2 (noTag_blk hb (by decide))
    sure := h.sure.kept hg2 (noTag_blk hb (by decide))
    chs := rowsKept h.chs hg2 (noTag_blk hb (by decide))
    dF := hF
    ds := hs
    nD := hN }
def RPost (F : Nat → Prop) (N b : Nat) (w : World) (S : Int → RMem → Prop) (e : Ending) (w' : World) : Prop :=
  ∃ n r', e = .returned (.int .i64 n) ∧ S n r' ∧ IsRef w' (fun k => F k ∨ w.heap.size ≤ k) (N + 1) b r' ∧ Keeps F w w'
theorem Keeps.one {F : Nat → Prop} {w w' : World} {b : Nat} (h : w.grownBy w' (some b)) (hb : F b) : Keeps F w w' := Keeps.of_grown h (fun k e _ => by cases e; exact hb)
def RChangeSpec (c : Chg) (r : RMem) (n : Int) (r' : RMem) : Prop :=
  (RNoPower r ∧ n = 9 ∧ r' = { r with off := true }) ∨ (r.off = false ∧ r.fuse ≠ 0 ∧ n = 0 ∧ ∃ cv dv, r' = { r with fuse := spent r.fuse, cv := cv, dv := dv, chs := r.chs ++ [c], dir := rdone r.dir c })
theorem cell_four_new (w : World) (x y z u : Value) (t : TypeId) : ∀ j v, [x, y, z, u][j]? = some v → (w.alloc (.cells #[x, y, z, u] t)).cell? ((⟨w.heap.size, 0, none⟩ : Addr).add j) = some v := by
  intro j v hj
  have hadd : ((⟨w.heap.size, 0, none⟩ : Addr).add j) = ⟨w.heap.size, j, none⟩ := by unfold Addr.add; split <;> simp_all
  rw [hadd]
  have hb := heap_alloc_new w (.cells #[x, y, z, u] t)
  simp only [World.cell?, hb]
  match j, hj with
  | 0, hj => simpa using hj
  | 1, hj => simpa using hj
  | 2, hj => simpa using hj
  | 3, hj => simpa using hj

/-- append onto a row of one's own, as one step of a region that draws. -/
theorem step_append_row (w : World) {ops : Array Oper} {o : Oper} {a : Act} {K : Act → World → Prop} {Q : Exit → Act → World → Prop} {E : Prop} (hgd : o.guard = none) (s x : Operand) (t e : TypeId)
    (ho : o.op = .call { callee := .builtin .append, args := #[s, x], argTypes := #[t, t] }) (i : TypeInfo) (z : Value) (size bytes : Nat) (ht : Try.prog.underlying t = some (.slice e)) (hi : Try.prog.info? e = some i) (hz : i.zero = some z)
    (hsize : i.size = size) (hby : i.bytes = bytes) (hzs : z.cells.size = size) (hsz : 0 < size)
    (v : Value) (n : Nat) (xs : List Value) (hs : a.eval s = v) (hown : w.ownsRow 0 e size v n xs) (ad : Addr) (m c : Nat) (news : List Value) (hx : a.eval x = .slice (some ad) m c) (hl : news.length = m * size) (hnews : ∀ j u, news[j]? = some u → w.cell? (ad.add j) = some u) (h1 : ∀ u ∈ news, u.oneCell' = true)
    (h63 : n + m ≤ maxLen) (hbytes : (n + m) * bytes ≤ 140737488355328)
    (h : ∀ a' c' w', Hid (w'.ownsRow 0 e size (.slice a' (n + m) c') (n + m) (xs ++ news) ∧ w.grownBy w' v.ownBlock ∧ ((Value.slice a' (n + m) c').ownBlock = v.ownBlock ∨ (Value.slice a' (n + m) c').ownBlock = some w.heap.size)) → K (a.put o.dst (.slice a' (n + m) c')) w') :
    if Region.wanted o (yielded ops a.tmps) = true then Oper.wp Try.prog o a w K Q else E := by
  have hw : Region.wanted o (yielded ops a.tmps) = true := by simp [Region.wanted, hgd]
  rw [if_pos hw]
  obtain ⟨v', w', hrun, r1, r2, r3, r4⟩ := run_append_own_at (P := Try.prog) w 0 t o.type e i z size bytes ht hi hz hsize hby hzs hsz v n xs hown ad m c news hl hnews h1 h63 hbytes (Nat.zero_le _)
  obtain ⟨a1, c1, rfl⟩ := rows_shape r1
  unfold Oper.wp execOp
  simp only [ho, resolve, invoke, builtin, Sem.run_bind, Sem.run_pure, Result.andThen_ok, List.map_toArray, List.map_cons, List.map_nil, hs, hx, hrun]
  exact h a1 c1 w' (hid_mk ⟨r1, r2, r4⟩)

/-- A call, as one step of a region that draws. -/
theorem step_call (w : World) {ops : Array Oper} {o : Oper} {a : Act} {K : Act → World → Prop} {Q : Exit → Act → World → Prop} {E : Prop} (hgd : o.guard = none) (f : FuncId) (args : Array Value) (hr : (execOp a.eval o).run Try.prog w = .ok (.enter f args) w)
    (h : Calls Try.prog f args w (fun e w' => ∃ v, e = .returned v ∧ K (a.put o.dst v) w')) :
    if Region.wanted o (yielded ops a.tmps) = true then Oper.wp Try.prog o a w K Q else E := by
  have hw : Region.wanted o (yielded ops a.tmps) = true := by simp [Region.wanted, hgd]
  rw [if_pos hw]
  unfold Oper.wp
  rw [hr]
  simp only [Oper.upon]
  exact h.mono fun e w'' ⟨v, he, hk⟩ => by subst he; exact hk

theorem grown_after {w w1 w2 : World} {row : Option Nat} (h : w.grownBy w1 none) (k : w1.grownBy w2 row) : w.grownBy w2 row :=
  ⟨k.os.trans h.os, k.tape.trans h.tape, k.output.trans h.output, Nat.le_trans h.size k.size, fun i hi hn => (k.block i (Nat.lt_of_lt_of_le hi h.size) hn).trans (h.block i hi (by simp))⟩
theorem Keeps.then {F : Nat → Prop} {a b c : World} (h : Keeps F a b) (k : Keeps F b c) : Keeps F a c := h.trans k (fun _ _ h => h)

theorem rpower_cases (r : RMem) : RNoPower r ∨ (r.off = false ∧ r.fuse ≠ 0) := by
  unfold RNoPower
  by_cases h : r.fuse = 0
  · exact .inl (.inr h)
  · cases hg : r.off with
    | true => exact .inl (.inl rfl)
    | false => exact .inr ⟨rfl, h⟩

theorem RPost.ahead {F : Nat → Prop} {N b : Nat} {w w0 w' : World} {S : Int → RMem → Prop} {e : Ending} (h : RPost F N b w0 S e w') (hg : w.grownBy w0 none) : RPost F N b w S e w' := by
  obtain ⟨n, m', he, hS, hI, hk⟩ := h
  exact ⟨n, m', he, hS, hI.monoF (fun k hk => by rcases hk with h | h; exact .inl h; exact .inr (Nat.le_trans hg.size h)), (Keeps.of_none hg).trans hk (fun _ _ h => h)⟩

set_option maxHeartbeats 2000000 in
theorem rchange_any (N b : Nat) (F : Nat → Prop) (r : RMem) (c : Chg) (w : World) (h0 : IsRef w F N b r) (hN : N ≤ 1999999999999) : Calls Try.prog 60 #[.pointer (some ⟨b, 0, none⟩), chgV c] w (RPost F N b w (RChangeSpec c r)) := by
  obtain ⟨kd, s, t, fi⟩ := c
  have h := h0.kept_none (World.grownBy_alloc w (.cells #[.int .i64 kd, .string s, .string t, .int .i64 fi] 89) none)
  have HA : Hid (Blk (w.alloc (.cells #[.int .i64 kd, .string s, .string t, .int .i64 fi] 89)) w.heap.size #[.int .i64 kd, .string s, .string t, .int .i64 fi] 89 ∧ w.grownBy (w.alloc (.cells #[.int .i64 kd, .string s, .string t, .int .i64 fi] 89)) none) := hid_mk ⟨heap_alloc_new _ _, World.grownBy_alloc _ _ _⟩
  have HL := hid_mk (show ∀ k, r.cv.ownBlock = some k → k < w.heap.size from fun k hk => row_lt h0.chs hk)
  have HBL := hid_mk (show b < w.heap.size from h0.dsk.lt)
  unfold chgV
  clear h0
  rcases rpower_cases r with hp | ⟨hp1, hp2⟩
  · have HC := hid_mk (rpower_no N b F r _ h hp)
    have HS := hid_mk hp
    clear h hp
    go_enter Try.func60, Try.ntmps60
    go_wp2_with fail
    refine HC.out.mono ?_
    rintro e w1 ⟨rfl, hI, hg⟩
    have H1 := hid_mk (And.intro hI hg)
    clear hI hg
    go_wp2_with fail
    go_ret
    exact RPost.ahead ⟨9, _, rfl, .inl ⟨HS.out, rfl, rfl⟩, (H1.out.1.monoF (fun k hk => .inl hk)).monoN (Nat.le_succ _), Keeps.one H1.out.2 H1.out.1.fB⟩ HA.out.2
  · have HC := hid_mk (rpower_ok N b F r _ h hp1 hp2)
    have HS := hid_mk (And.intro hp1 hp2)
    obtain ⟨i0, hi, hz0, hz1, hz2⟩ := info_parts info89
    have hln : r.chs.length ≤ 1999999999999 := by have := h.nS; omega
    have hld : r.dir.length ≤ 2000000000000 := by have := h.nD; omega
    have HNN := hid_mk h.nD
    have HFB := hid_mk h.fB
    clear h hp1 hp2
    go_enter Try.func60, Try.ntmps60
    go_wp2_with fail
    refine HC.out.mono ?_
    generalize (w.alloc (.cells #[.int .i64 kd, .string s, .string t, .int .i64 fi] 89)) = w0 at *
    rintro e w1 ⟨rfl, hI, hg⟩
    have HB := hid_mk (show Blk w1 w.heap.size #[.int .i64 kd, .string s, .string t, .int .i64 fi] 89 from HA.out.1.kept hg (fun e => by have := HBL.out; simp at e; omega))
    obtain ⟨d0, d1, d2, d3⟩ : w1.cell? ⟨w.heap.size, 0, none⟩ = some (.int .i64 kd) ∧ w1.cell? ⟨w.heap.size, 1, none⟩ = some (.string s) ∧ w1.cell? ⟨w.heap.size, 2, none⟩ = some (.string t) ∧ w1.cell? ⟨w.heap.size, 3, none⟩ = some (.int .i64 fi) := ⟨by rw [HB.out.cell]; rfl, by rw [HB.out.cell]; rfl, by rw [HB.out.cell]; rfl, by rw [HB.out.cell]; rfl⟩
    obtain ⟨_, _, _, _, c4, _, _, _⟩ := hI.dsk.all
    simp only at c4
    obtain ⟨ca, cc, ecv⟩ := rows_shape hI.chs
    simp only at ecv
    have HCV := hid_mk ecv
    rw [ecv] at c4
    have HOW := hid_mk (show (w1.alloc (.cells #[.int .i64 kd, .string s, .string t, .int .i64 fi] 89)).drew.ownsRow 0 89 4 (.slice ca r.chs.length cc) r.chs.length (chgCells r.chs) from by
      have := (hI.chs.alloc (.cells #[.int .i64 kd, .string s, .string t, .int .i64 fi] 89)).drew
      simp only at this
      rwa [ecv] at this)
    have k4 : (w1.alloc (.cells #[.int .i64 kd, .string s, .string t, .int .i64 fi] 89)).drew.cell? ⟨b, 4, none⟩ = some (.slice ca r.chs.length cc) := (World.grownBy_alloc w1 (.cells #[.int .i64 kd, .string s, .string t, .int .i64 fi] 89) none).cell c4 (by simp)
    have HGD := hid_mk (show w1.grownBy (w1.alloc (.cells #[.int .i64 kd, .string s, .string t, .int .i64 fi] 89)).drew none from grown_trans (World.grownBy_alloc _ _ none) (grown_drew1 _ none))
    have H1 := hid_mk (And.intro hI hg)
    clear hI hg ecv
    go_wp2_with fail
    go_region_law (refine step_append_row _ rfl (.tmp 12) (.tmp 14) 65 89 rfl i0 _ 4 48 Try.underlying65 hi hz0 hz1 hz2 rfl (by decide) (.slice ca r.chs.length cc) r.chs.length (chgCells r.chs) rfl HOW.out ⟨w1.heap.size, 0, none⟩ 1 1 [.int .i64 kd, .string s, .string t, .int .i64 fi] rfl rfl (cell_four_new _ _ _ _ _ _) (by simp [Value.oneCell']) (by unfold maxLen; omega) (by omega) ?_; intro a6 c6 w6 P6; have Q6 := hid_mk (show RDsk w6 b { r with fuse := spent r.fuse } from H1.out.1.dsk.keptN (grown_after HGD.out P6.out.2.1) (HCV.out ▸ noTag_rows H1.out.1.chs (by decide))); have n6 := Q6.out.all.2.2.2.2.2.2.2 4; have m6 := Q6.out.all.2.2.2.2.1)
    all_goals (
      have G6 := hid_mk (grown_after HGD.out P6.out.2.1)
      have HSZ := hid_mk (show w.heap.size ≤ w1.heap.size from Nat.le_trans HA.out.2.size H1.out.2.size)
      have HFR := hid_mk (show ∀ k, (Value.slice a6 (r.chs.length + 1) c6).ownBlock = some k → F k ∨ w.heap.size ≤ k from fun k hk => by
        rcases P6.out.2.2 with e | e
        · rw [e, ← HCV.out] at hk
          exact .inl (H1.out.1.cF k hk)
        · rw [e] at hk
          cases hk
          exact .inr (Nat.le_trans HSZ.out HGD.out.size))
      have HI : Hid (IsRef (w6.setCell ⟨b, 4, none⟩ (.slice a6 (r.chs.length + 1) c6)) (fun k => F k ∨ w.heap.size ≤ k) (N + 1) b { r with fuse := spent r.fuse, cv := .slice a6 (r.chs.length + 1) c6, chs := r.chs ++ [⟨kd, s, t, fi⟩] }) := hid_mk ((((H1.out.1.monoF (G := fun k => F k ∨ w.heap.size ≤ k) (fun k hk => .inl hk)).monoN (Nat.le_succ N)).changed (w' := w6) (HCV.out ▸ G6.out) (.slice a6 (r.chs.length + 1) c6) (r.chs ++ [⟨kd, s, t, fi⟩]) (by
        have := P6.out.1
        rw [List.length_append, chgCells_app]
        exact this) HFR.out (by have := H1.out.1.nS; simp only [List.length_append, List.length_singleton] at this ⊢; omega) (w6.setCell ⟨b, 4, none⟩ (.slice a6 (r.chs.length + 1) c6)) (grown_setCell _ _ _ _) (Blk.set Q6.out 4 _)))
      have HBX := hid_mk (show Blk (w6.setCell ⟨b, 4, none⟩ (.slice a6 (r.chs.length + 1) c6)) w.heap.size #[.int .i64 kd, .string s, .string t, .int .i64 fi] 89 from
        Blk.kept (Blk.kept HB.out G6.out (fun e => by have := HL.out _ (HCV.out ▸ e.symm); omega)) (grown_setCell _ _ _ _) (fun e => by have := HBL.out; simp at e; omega))
      have HK := hid_mk (show Keeps F w (w6.setCell ⟨b, 4, none⟩ (.slice a6 (r.chs.length + 1) c6)) from
        ((Keeps.of_none HA.out.2).then (Keeps.one H1.out.2 H1.out.1.fB)).then ((Keeps.of_grown G6.out (fun k e _ => H1.out.1.cF k (HCV.out ▸ e))).then (Keeps.one (grown_setCell _ _ _ _) H1.out.1.fB)))
      clear P6 Q6 G6 HFR n6 m6 HGD HOW k4 c4 d0 d1 d2 d3 HB H1
      generalize (w6.setCell ⟨b, 4, none⟩ (.slice a6 (r.chs.length + 1) c6)) = w7 at *
      obtain ⟨_, _, c2, _, _, _, _, cf⟩ := HI.out.dsk.all
      have f2 := cf 2
      simp only at c2
      obtain ⟨da, dc, edv⟩ := HI.out.dir.len
      simp only at edv
      have HDV := hid_mk edv
      rw [edv] at c2
      obtain ⟨d0, d1, d2, d3⟩ : w7.cell? ⟨w.heap.size, 0, none⟩ = some (.int .i64 kd) ∧ w7.cell? ⟨w.heap.size, 1, none⟩ = some (.string s) ∧ w7.cell? ⟨w.heap.size, 2, none⟩ = some (.string t) ∧ w7.cell? ⟨w.heap.size, 3, none⟩ = some (.int .i64 fi) := ⟨by rw [HBX.out.cell]; rfl, by rw [HBX.out.cell]; rfl, by rw [HBX.out.cell]; rfl, by rw [HBX.out.cell]; rfl⟩
      clear cf edv
      go_wp2_with fail
      go_region_law (refine step_call _ rfl 63 #[.slice da r.dir.length dc, chgV ⟨kd, s, t, fi⟩] (by go_simp; rfl) ?_; refine (done_any _ r.dir ⟨kd, s, t, fi⟩ _ (by have := HI.out.dir.nmr; simp only at this; rw [HDV.out] at this; exact this.kept (grown_drew1 _ none)) hld).mono ?_; rintro e w8 ⟨v8, rfl, ho8, hg8⟩; refine ⟨_, rfl, ?_⟩; obtain ⟨a8, c8, rfl⟩ := ho8.len; have G8 := hid_mk (grown_trans (grown_drew1 w7 none) hg8); have P8 := hid_mk ho8; have Q8 := hid_mk (HI.out.kept_none G8.out); have m8 := Q8.out.dsk.all.2.2.1; have n8 := Q8.out.dsk.all.2.2.2.2.2.2.2 2; clear ho8 hg8)
      all_goals (
        go_wp2_with fail
        go_ret
        have hs8 : w7.heap.size ≤ w8.heap.size := G8.out.size
        refine ⟨0, _, rfl, .inr ⟨HS.out.1, HS.out.2, rfl, .slice a6 (r.chs.length + 1) c6, .slice a8 (rdone r.dir ⟨kd, s, t, fi⟩).length c8, rfl⟩, ?_, ?_⟩
        · exact Q8.out.dired (.slice a8 (rdone r.dir ⟨kd, s, t, fi⟩).length c8) (rdone r.dir ⟨kd, s, t, fi⟩) (row_to0 P8.out) (fun k hk => .inr (Nat.le_trans HK.out.size (row_low P8.out hk))) (fun k hk he => by
            have h1 := row_low P8.out hk
            have h2 := row_lt HI.out.sure he
            exact absurd h1 (Nat.not_le.2 h2)) (by have h1 := rdone_len r.dir ⟨kd, s, t, fi⟩; have h2 := HI.out.nD; simp only at h2; have h3 := HNN.out; omega) (grown_setCell _ _ _ _) (Blk.set Q8.out.dsk 2 _)
        · exact HK.out.then ((Keeps.of_none G8.out).then (Keeps.one (grown_setCell _ _ _ _) HFB.out))))

end Go.Proofs.Ytopablemfajecaa
