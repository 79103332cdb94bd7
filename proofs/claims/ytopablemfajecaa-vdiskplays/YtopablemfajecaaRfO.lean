/- The document's disk: Crash. -/
import Derived.Test.YtopablemfajecaaRfN
import Derived.Test.YtopablemfajecaaRfQ
namespace Go.Proofs.Ytopablemfajecaa
open Go.RowKit Go.Maps Go.WideMaps Go.WideElems
set_option linter.unusedVariables false
set_option linter.unusedSimpArgs false
set_option maxRecDepth 100000

def cutW : Value → Nat → Value
  | .slice a _ c, n => .slice a n c
  | v, _ => v
def rcut (f : RFile) (n : Nat) : RFile := ⟨cutW f.bv (f.synced + n), f.data.take (f.synced + n), f.synced + n⟩
theorem rcut_row {w : World} {v : Value} {l : List UInt8} (n : Nat) (h : w.ownsRow 0 5 1 v l.length (u8s l)) (hn : n ≤ l.length) : w.ownsRow 0 5 1 (cutW v n) (l.take n).length (u8s (l.take n)) := by
  have hl : (l.take n).length = n := by simp; omega
  have hu : u8s (l.take n) = (u8s l).take n := by simp [u8s, List.map_take]
  rw [hl, hu]
  rcases h.2 with ⟨rfl, h0⟩ | ⟨g, cap, cur, rfl, hb, hg, hc, hm, hsz, ht⟩
  · have : n = 0 := by omega
    subst this
    simpa [cutW] using World.ownsRow_nil w 0 5 1
  · refine ⟨by simp [u8s]; omega, .inr ⟨g, cap, cur, rfl, hb, hg, by omega, hm, hsz, ?_⟩⟩
    rw [← ht, List.take_take]
    congr 1
    omega
theorem cutW_own (v : Value) (n : Nat) : (cutW v n).ownBlock = v.ownBlock := by
  unfold cutW
  split
  · rename_i a _ c; cases a <;> rfl
  · rfl
def rreplay (chs : List Chg) (k : Nat) (dir : List (ByteArray × Nat)) : List (ByteArray × Nat) := (chs.take k).foldl rdone dir
def rkeep (cs : List Int) (st : List RFile × Nat × List Bool) (p : ByteArray × Nat) : List RFile × Nat × List Bool :=
  match st.2.2[p.2]?, st.1[p.2]? with
  | some false, some f => (st.1.set p.2 (rcut f (pick cs st.2.1 (f.data.length - f.synced))), st.2.1 + 1, st.2.2.set p.2 true)
  | _, _ => st
def rkept (cs : List Int) (files : List RFile) (dir : List (ByteArray × Nat)) (k : Nat) : List RFile × Nat × List Bool := (dir.take k).foldl (rkeep cs) (files, 1, List.replicate files.length false)
theorem rreplay_succ (chs : List Chg) (k : Nat) (dir : List (ByteArray × Nat)) (h : k < chs.length) : rreplay chs (k + 1) dir = rdone (rreplay chs k dir) chs[k] := by
  unfold rreplay
  rw [List.take_succ_eq_append_getElem h, List.foldl_append]
  rfl
theorem rkept_succ (cs : List Int) (files : List RFile) (dir : List (ByteArray × Nat)) (k : Nat) (h : k < dir.length) : rkept cs files dir (k + 1) = rkeep cs (rkept cs files dir k) dir[k] := by
  unfold rkept
  rw [List.take_succ_eq_append_getElem h, List.foldl_append]
  rfl
theorem rkeep_len (cs : List Int) (st : List RFile × Nat × List Bool) (p : ByteArray × Nat) : (rkeep cs st p).1.length = st.1.length ∧ (rkeep cs st p).2.2.length = st.2.2.length ∧ (rkeep cs st p).2.1 ≤ st.2.1 + 1 := by
  unfold rkeep
  split
  · simp
  · simp
theorem rkept_len (cs : List Int) (files : List RFile) (dir : List (ByteArray × Nat)) : ∀ k, (rkept cs files dir k).1.length = files.length ∧ (rkept cs files dir k).2.2.length = files.length ∧ (rkept cs files dir k).2.1 ≤ k + 1
  | 0 => by simp [rkept]
  | k + 1 => by
    have ih := rkept_len cs files dir k
    by_cases h : k < dir.length
    · rw [rkept_succ _ _ _ _ h]
      have := rkeep_len cs (rkept cs files dir k) dir[k]
      omega
    · unfold rkept at ih ⊢
      rw [List.take_of_length_le (by omega)] at ih ⊢
      omega
theorem rreplay_len (chs : List Chg) (dir : List (ByteArray × Nat)) : ∀ k, (rreplay chs k dir).length ≤ dir.length + k
  | 0 => by simp [rreplay]
  | k + 1 => by
    have ih := rreplay_len chs dir k
    by_cases h : k < chs.length
    · rw [rreplay_succ _ _ _ h]
      have := rdone_len (rreplay chs k dir) chs[k]
      omega
    · unfold rreplay at ih ⊢
      rw [List.take_of_length_le (by omega)] at ih ⊢
      omega
theorem chgCells_get (l : List Chg) : ∀ (i : Nat) (c : Chg), l[i]? = some c → (chgCells l)[i * 4]? = some (.int .i64 c.kind) ∧ (chgCells l)[i * 4 + 1]? = some (.string c.name) ∧ (chgCells l)[i * 4 + 2]? = some (.string c.to) ∧ (chgCells l)[i * 4 + 3]? = some (.int .i64 c.file) := by
  induction l with
  | nil => intro i p h; simp at h
  | cons q r ih =>
    intro i p h
    cases i with
    | zero => simp at h; subst h; simp [chgCells]
    | succ i =>
      simp at h
      have hh := ih i p h
      have e : chgCells (q :: r) = [.int .i64 q.kind, .string q.name, .string q.to, .int .i64 q.file] ++ chgCells r := by simp [chgCells]
      rw [e]
      refine ⟨?_, ?_, ?_, ?_⟩
      · rw [List.getElem?_append_right (by simp; omega), ← hh.1]; congr 1; simp; omega
      · rw [List.getElem?_append_right (by simp; omega), ← hh.2.1]; congr 1; simp; omega
      · rw [List.getElem?_append_right (by simp; omega), ← hh.2.2.1]; congr 1; simp; omega
      · rw [List.getElem?_append_right (by simp; omega), ← hh.2.2.2]; congr 1; simp; omega

theorem info4 : (Try.prog.info? 4).map (fun i => (i.zero, i.size, i.bytes)) = some (some (.bool false), 1, 1) := by kernel_rfl
theorem made_false (n : Nat) : (madeCells (Value.cells (.bool false)) (n * 1)).toList = (List.replicate n false).map Value.bool := by
  rw [Nat.mul_one, List.map_replicate]
  exact toList_madeCells_one _ _
/-- The directory that a crash leaves, and the disk. -/
def rleft (cs : List Int) (r : RMem) : List (ByteArray × Nat) := rreplay r.chs (pick cs 0 r.chs.length) r.sure
def rcrashed (cs : List Int) (r : RMem) (dv sv : Value) : RMem := ⟨r.quota, -1, false, r.fv, dv, sv, .slice none 0 0, (rkept cs r.files (rleft cs r) (rleft cs r).length).1, rleft cs r, rleft cs r, []⟩

/-- A block of another kind has turned. -/
theorem IsRef.kept_tag {w w' : World} {F : Nat → Prop} {N b : Nat} {r : RMem} {row : Option Nat} (h : IsRef w F N b r) (hg : w.grownBy w' row) (t : ∀ u, u ≠ 4 → NoTag w row u) : IsRef w' F N b r :=
  { h with
    dsk := h.dsk.keptN hg (t 67 (by decide))
    files := rowsKept h.files hg (t 91 (by decide))
    byts := fun f hf => ⟨rowsKept (h.byts f hf).1 hg (t 5 (by decide)), (h.byts f hf).2⟩
    dir := h.dir.kept hg (t 94 (by decide))
    sure := h.sure.kept hg (t 94 (by decide))
    chs := rowsKept h.chs hg (t 89 (by decide)) }
/-- Where the second loop stands. -/
structure RL2 (w1 W : World) (F : Nat → Prop) (N b : Nat) (r : RMem) (v : Value) (cs : List Int) (mb : Nat) (dvv : Value) (D : List (ByteArray × Nat)) (k : Nat) (st : List RFile × Nat × List Bool) : Prop where
  eq : st = rkept cs r.files D k
  ref : IsRef W F N b { r with files := st.1 }
  met : W.ownsRow w1.heap.size 4 1 (.slice (some ⟨mb, 0, none⟩) r.files.length r.files.length) r.files.length (st.2.2.map Value.bool)
  src : SrcI W v cs
  dir : NmO W w1.heap.size dvv D
  keeps : Keeps F w1 W
set_option maxHeartbeats 4000000 in
theorem rcrash_any (N b : Nat) (F : Nat → Prop) (r : RMem) (v : Value) (cs : List Int) (w : World) (h : IsRef w F N b r) (hN : N ≤ 1999999999999) (hs : SrcI w v cs) (hsep : ∀ g off cap, 0 < cs.length → v = .slice (some ⟨g, off, none⟩) cs.length cap → ¬ F g ∧ g < w.heap.size) (hin : ∀ p ∈ rleft cs r, p.2 < r.files.length) :
    Calls Try.prog 37 #[.pointer (some ⟨b, 0, none⟩), v] w fun e w' => e = .returned (.tuple #[]) ∧ (∃ dv sv, IsRef w' (fun k => F k ∨ w.heap.size ≤ k) (N + 1) b (rcrashed cs r dv sv)) ∧ Keeps F w w' := by
  obtain ⟨va, vl, vc, ev⟩ : ∃ a n c, v = .slice a n c := by
    rcases hs.2.2 with ⟨⟨a0, c0, rfl⟩, _⟩ | ⟨g, off, cap, rfl, _⟩
    · exact ⟨_, _, _, rfl⟩
    · exact ⟨_, _, _, rfl⟩
  subst ev
  have hnc : r.chs.length ≤ 1999999999999 := by have := h.nS; omega
  have hns : r.sure.length ≤ 1999999999999 := by have := h.nS; omega
  have hnf : r.files.length ≤ 1999999999999 := by have := h.nF; omega
  have hsum : r.sure.length + r.chs.length ≤ 1999999999999 := by have := h.nS; omega
  obtain ⟨fa, fc, e1⟩ := rows_shape h.files
  obtain ⟨sa, sc, e3⟩ := h.sure.len
  obtain ⟨ca, cc, e4⟩ := rows_shape h.chs
  obtain ⟨_, c1, _, c3, c4, _, _, _⟩ := h.dsk.all
  rw [e1] at c1
  rw [e3] at c3
  rw [e4] at c4
  have HE := hid_mk (And.intro e1 (And.intro e3 e4))
  have HI := hid_mk h
  have HS := hid_mk hs
  have HSE := hid_mk hsep
  have HIN := hid_mk hin
  have HPL := hid_mk (pick_le cs 0 r.chs.length)
  clear h hs hsep hin e1 e3 e4
  go_enter Try.func37, Try.ntmps37
  go_wp2_with fail
  refine (rpick_any _ cs 0 r.chs.length w HS.out (by omega) (by omega)).mono ?_
  rintro e w1 ⟨rfl, rfl⟩
  have HPN := hid_mk (show rleft cs r = rreplay r.chs (pick cs 0 r.chs.length) r.sure from rfl)
  generalize pick cs 0 r.chs.length = n at *
  have hnle : n ≤ r.chs.length := HPL.out
  have k3 : (w1.alloc (.cells #[] 94)).cell? ⟨b, 3, none⟩ = some (.slice sa r.sure.length sc) := (World.grownBy_alloc w1 (.cells #[] 94) none).cell c3 (by simp)
  go_wp2_with (at_builtin; refine wpList_append_nm w1 _ rfl (.tmp 19) (.tmp 23) rfl (World.grownBy_alloc _ _ none) (.slice (some ⟨w1.heap.size, 0, none⟩) 0 0) [] rfl (nm_empty (heap_alloc_new _ _) (Nat.le_refl _)) r.sure (.slice sa r.sure.length sc) rfl (NmR.kept (by have := HI.out.sure.nmr; rwa [HE.out.2.1] at this) (World.grownBy_alloc _ _ none)) (by simp; omega) ?_; intro a6 c6 w6 P6; rw [show ([] : List (ByteArray × Nat)).length + r.sure.length = r.sure.length by simp, List.nil_append] at P6)
  have HP6 := hid_mk (show NmO w6 w1.heap.size (.slice a6 r.sure.length c6) r.sure ∧ w1.grownBy w6 none from ⟨P6.out.1, P6.out.2.1⟩)
  clear P6 c1 c3 c4 k3
  go_loopw [5, 6] (fun dv iv W1 => ∃ (k L : Nat) (da : Option Addr) (dc : Nat), k ≤ n ∧ L ≤ r.sure.length + k ∧ iv = .int .i64 k ∧ dv = .slice da L dc ∧ Hid (L = (rreplay r.chs k r.sure).length ∧ NmO W1 w1.heap.size (.slice da L dc) (rreplay r.chs k r.sure) ∧ w1.grownBy W1 none)) (fun _ iv _ => n - (intOf iv).toNat)
  case atStart => exact ⟨0, r.sure.length, a6, c6, Nat.zero_le _, Nat.le_refl _, rfl, rfl, hid_mk ⟨rfl, HP6.out.1, HP6.out.2⟩⟩
  case round =>
    obtain ⟨k, L, da, dc, hk, hL, rfl, rfl, H⟩ := hrel
    have HIr := hid_mk (HI.out.kept_none H.out.2.2)
    obtain ⟨_, c1, _, c3, c4, _, _, _⟩ := HIr.out.dsk.all
    rw [HE.out.1] at c1
    rw [HE.out.2.1] at c3
    rw [HE.out.2.2] at c4
    by_cases hlt : k < n
    · have hlI : (k : Int) < (n : Int) := by omega
      have hkc : k < r.chs.length := by omega
      have hkI : (k : Int) < (r.chs.length : Int) := by omega
      have HC := hid_mk (List.getElem?_eq_getElem hkc)
      have HRS := hid_mk (rreplay_succ r.chs k r.sure hkc)
      generalize r.chs[k] = ch at *
      have hrow := HIr.out.chs
      rw [HE.out.2.2] at hrow
      rcases hrow.2 with ⟨_, h0⟩ | ⟨g, cap, cur, ec, _, _, hcc, _⟩
      · omega
      · injection ec with ec1 ec2 ec3
        subst ec1
        subst ec3
        obtain ⟨g0, g1, g2, g3⟩ := chgCells_get _ k ch HC.out
        have x0 := World.ownsRow.cellAt hrow (k * 4) (by omega)
        have x1 := World.ownsRow.cellAt hrow (k * 4 + 1) (by omega)
        have x2 := World.ownsRow.cellAt hrow (k * 4 + 2) (by omega)
        have x3 := World.ownsRow.cellAt hrow (k * 4 + 3) (by omega)
        rw [g0] at x0
        rw [g1] at x1
        rw [g2] at x2
        rw [g3] at x3
        obtain ⟨kd, s, t, fi⟩ := ch
        simp only at x0 x1 x2 x3
        clear hrow ec2 g0 g1 g2 g3
        go_wp2_with fail
        refine (done_any (.slice da L dc) (rreplay r.chs k r.sure) ⟨kd, s, t, fi⟩ wr H.out.2.1.nmr (by have := H.out.1; omega)).mono ?_
        rintro e w8 ⟨v8, rfl, ho8, hg8⟩
        obtain ⟨a8, c8, rfl⟩ := ho8.len
        have G8 := hid_mk (grown_trans H.out.2.2 hg8)
        have P8 := hid_mk (row_base ho8 H.out.2.2.size)
        have HL8 := hid_mk (show (rdone (rreplay r.chs k r.sure) ⟨kd, s, t, fi⟩).length ≤ r.sure.length + (k + 1) by have := rdone_len (rreplay r.chs k r.sure) ⟨kd, s, t, fi⟩; have := H.out.1; omega)
        clear ho8 hg8 x0 x1 x2 x3 c1 c3 c4
        go_wp2_with fail
        refine ⟨⟨k + 1, _, a8, c8, by omega, HL8.out, by simp, rfl, hid_mk ⟨by rw [HRS.out], ?_, G8.out⟩⟩, by simp [intOf]; omega⟩
        rw [HRS.out]
        exact P8.out
    · have hlI : ¬ (k : Int) < (n : Int) := by omega
      have hkn : k = n := by omega
      subst hkn
      obtain ⟨i4, hi4, hz4, hs4, hb4⟩ := info_parts info4
      obtain ⟨w7, hmk, hmet, hg7⟩ := run_make_full (P := Try.prog) wr w1.heap.size 97 4 i4 (.bool false) 1 Try.underlying97 hi4 hz4 hs4 .i64 .i64 r.files.length (by rw [hb4]; omega) (by unfold maxLen; omega) H.out.2.2.size
      have HD := hid_mk (show L = (rleft cs r).length ∧ NmO w7 w1.heap.size (.slice da L dc) (rleft cs r) from by
        have h1 := H.out.2.1
        rw [← HPN.out] at h1
        exact ⟨by rw [HPN.out]; exact H.out.1, h1.kept hg7 (noTag_none _ _)⟩)
      have G7 := hid_mk (grown_trans H.out.2.2 hg7)
      have HM := hid_mk (show w7.ownsRow w1.heap.size 4 1 (.slice (some ⟨wr.heap.size, 0, none⟩) r.files.length r.files.length) r.files.length ((List.replicate r.files.length false).map Value.bool) from by
        rw [made_false] at hmet
        exact hmet)
      have HMB := hid_mk (show w1.heap.size ≤ wr.heap.size from H.out.2.2.size)
      have HL2 : Hid (RL2 w1 w7 F N b r (.slice va vl vc) cs wr.heap.size (.slice da L dc) (rleft cs r) 0 (rkept cs r.files (rleft cs r) 0)) := hid_mk ⟨rfl, HI.out.kept_none G7.out, HM.out, HS.out.kept G7.out (fun _ _ _ _ _ => by simp), HD.out.2, Keeps.of_none G7.out⟩
      have hLb : L ≤ 1999999999999 := by omega
      clear hmet hg7 c3 c4
      generalize wr.heap.size = mb at *
      go_wp2_with fail
      go_loopw [7, 9] (fun tv iv W1 => ∃ (k at' : Nat), k ≤ L ∧ at' ≤ k + 1 ∧ iv = .int .i64 k ∧ tv = .int .i64 at' ∧ Hid (∃ st, at' = st.2.1 ∧ RL2 w1 W1 F N b r (.slice va vl vc) cs mb (.slice da L dc) (rleft cs r) k st)) (fun _ iv _ => L - (intOf iv).toNat)
      case atStart => exact ⟨0, 1, Nat.zero_le _, by omega, rfl, rfl, hid_mk ⟨_, rfl, HL2.out⟩⟩
      case round =>
        obtain ⟨k2, at2, hk2, hat2, rfl, rfl, H2⟩ := hrel
        obtain ⟨st, hst, hl2⟩ := H2.out
        clear H2 HL2
        by_cases hlt2 : k2 < L
        · have hlI2 : (k2 : Int) < (L : Int) := by omega
          have HL := hid_mk hl2
          have hlD : k2 < (rleft cs r).length := by have := HD.out.1; omega
          have hp : (rleft cs r)[k2]? = some (rleft cs r)[k2] := List.getElem?_eq_getElem hlD
          have HKS := hid_mk (rkept_succ cs r.files (rleft cs r) k2 hlD)
          obtain ⟨g, off, cap, ed, hcap, hcell⟩ := hl2.dir.nmr.at (by omega)
          injection ed with ed1 ed2 ed3
          subst ed1
          subst ed3
          have q0 := (hcell k2 _ hp).1
          have q1 := (hcell k2 _ hp).2
          have hfl := HIN.out _ (List.mem_of_getElem? hp)
          generalize (rleft cs r)[k2] = p at *
          obtain ⟨ps, pf⟩ := p
          simp only at q0 q1 hfl
          have hrl := rkept_len cs r.files (rleft cs r) k2
          rw [← hl2.eq] at hrl HKS
          have hf : st.1[pf]? = some st.1[pf] := List.getElem?_eq_getElem (by omega)
          have hm : st.2.2[pf]? = some st.2.2[pf] := List.getElem?_eq_getElem (by omega)
          have mc := World.ownsRow.cellAt hl2.met pf (by omega)
          have mf := World.ownsRow.frozenAt hl2.met pf
          rw [List.getElem?_map, hm] at mc
          simp only [Option.map_some] at mc
          have hflI : (pf : Int) < (r.files.length : Int) := by omega
          have hL' : L ≤ dc := by omega
          have HF := hid_mk hf
          have HMM := hid_mk hm
          have HAT := hid_mk hst
          have HRL := hid_mk hrl
          generalize st.2.2[pf] = mt at *
          generalize st.1[pf] = f at *
          clear hl2 hp hcell ed2 hf hm hst hrl
          cases mt with
          | true =>
            go_wp2_with fail
            refine ⟨⟨k2 + 1, at2, by omega, by omega, by simp, rfl, hid_mk ⟨st, HAT.out, ?_⟩⟩, by simp [intOf]; omega⟩
            exact { HL.out with eq := by rw [HKS.out]; simp [rkeep, HMM.out] }
          | false =>
            go_upto_region 14 with fail
            have hst1 := World.ownsRow.stored HL.out.met pf (.bool true)
            have HM1 := hid_mk (show (wr.setCell ⟨mb, pf, none⟩ (.bool true)).ownsRow w1.heap.size 4 1 (.slice (some ⟨mb, 0, none⟩) r.files.length r.files.length) r.files.length ((st.2.2.set pf true).map Value.bool) ∧ wr.grownBy (wr.setCell ⟨mb, pf, none⟩ (.bool true)) (some mb) from by
              rw [List.map_set]
              exact hst1)
            have HTG := hid_mk (show ∀ u, u ≠ 4 → NoTag wr (some mb) u from fun u hu => noTag_rows HL.out.met hu)
            have I1 := hid_mk (HL.out.ref.kept_tag HM1.out.2 HTG.out)
            have S1 := hid_mk (show SrcI (wr.setCell ⟨mb, pf, none⟩ (.bool true)) (.slice va vl vc) cs from HL.out.src.kept HM1.out.2 (fun g off cap h0 he e => by
              have h1 := (HSE.out g off cap h0 he).2
              have h2 := HMB.out
              cases e
              omega))
            have D1 := hid_mk (HL.out.dir.kept HM1.out.2 (HTG.out 94 (by decide)))
            have K1 := hid_mk (show Keeps F w1 (wr.setCell ⟨mb, pf, none⟩ (.bool true)) from HL.out.keeps.trans (Keeps.of_grown (F := fun k => w1.heap.size ≤ k) HM1.out.2 (fun k e _ => by cases e; exact HMB.out)) (fun i hi _ h => by have h' : w1.heap.size ≤ i := h; omega))
            clear hst1 mc mf q0 q1
            generalize (wr.setCell ⟨mb, pf, none⟩ (.bool true)) = w8 at *
            have hfv := HE.out.1
            obtain ⟨g2, cap2, ef, hcap2, hFg, hgl, x0, x1, xf, hrow⟩ := I1.out.fileAt HF.out
            simp only at ef hcap2 x0 x1 hrow
            rw [ef] at hfv
            injection hfv with hf1 hf2 hf3
            rw [HRL.out.1] at hcap2 hf2
            subst hf1
            subst hf3
            have b1 := I1.out.dsk.all.2.1
            simp only at b1
            rw [ef] at b1
            obtain ⟨ba, bc, eb⟩ := rows_shape (I1.out.byts f (List.mem_of_getElem? HF.out)).1
            have HB := hid_mk (I1.out.byts f (List.mem_of_getElem? HF.out))
            rw [eb] at x0
            have HEB := hid_mk eb
            have xf0 := xf (pf * 2)
            have xf1 := xf (pf * 2 + 1)
            have HRW := hid_mk (And.intro hFg (And.intro hrow ef))
            rw [HRL.out.1] at b1
            clear eb ef hf2 xf hrow hFg c1
            have hlen : f.data.length ≤ 1048576 := HB.out.2.2.2
            have hsyn : f.synced ≤ f.data.length := HB.out.2.2.1
            have hbc : f.data.length ≤ bc := by
              have := HB.out.1
              rw [HEB.out] at this
              rcases this.2 with ⟨e, h0⟩ | ⟨_, _, _, e, _, _, hc, _⟩
              · omega
              · injection e with _ _ e3
                omega
            have PK := hid_mk (fun W hW => rpick_any (.slice va vl vc) cs at2 (f.data.length - f.synced) W hW (by omega) (by omega))
            have HPK := hid_mk (show rkeep cs st (ps, pf) = (st.1.set pf (rcut f (pick cs at2 (f.data.length - f.synced))), at2 + 1, st.2.2.set pf true) from by
              simp only [rkeep, HMM.out, HF.out]
              rw [← HAT.out])
            have hpl := pick_le cs at2 (f.data.length - f.synced)
            have hwr : IntKind.i64.wrap ((f.data.length : Int) - (f.synced : Int)) = ((f.data.length - f.synced : Nat) : Int) := by
              rw [wrap_id _ (by omega) (by omega)]
              omega
            have hsl : ∀ W, (Instr.slice 32 (.slice ba f.data.length bc) none (some (.int .i64 ((f.synced : Int) + (pick cs at2 (f.data.length - f.synced) : Int)))) none).run Try.prog W = .ok (.slice ba (f.synced + pick cs at2 (f.data.length - f.synced)) bc) W := fun W => by
              rw [show ((f.synced : Int) + (pick cs at2 (f.data.length - f.synced) : Int)) = ((f.synced + pick cs at2 (f.data.length - f.synced) : Nat) : Int) by omega]
              exact slice_bytes _ _ _ _ (by omega) W
            have hqb : f.data.length - f.synced ≤ 1048576 := by omega
            have HQ := hid_mk (show f.synced + (f.data.length - f.synced) = f.data.length by omega)
            generalize f.data.length - f.synced = q at *
            generalize pick cs at2 q = p at *
            have hsq : f.synced + q = f.data.length := HQ.out
            have hws : IntKind.i64.wrap ((f.synced : Int) + (p : Int)) = (f.synced : Int) + (p : Int) := wrap_id _ (by omega) (by omega)
            have hle1 : (0 : Int) ≤ (f.synced : Int) + (p : Int) := by omega
            have hle2 : (f.synced : Int) + (p : Int) ≤ (bc : Int) := by omega
            have htn : ((f.synced : Int) + (p : Int)).toNat = f.synced + p := by omega
            clear hsq
            have hwq : IntKind.i64.wrap (q : Int) = (q : Int) := wrap_id _ (by omega) (by omega)
            go_wp2_with fail
            have HXC : ∀ W, w8.grownBy W none → W.cell? ⟨g2, pf * 2, none⟩ = some (.slice ba f.data.length bc) ∧ W.cell? ⟨g2, pf * 2 + 1, none⟩ = some (.int .i64 f.synced) := fun W hW => ⟨hW.cell x0 (by simp), hW.cell x1 (by simp)⟩
            refine Last.wp_region_mix 26 [(0, true), (1, true), (2, true), (3, true), (4, true), (5, true), (6, true), (7, true), (8, true), (9, true), (10, true), (11, true), (12, true), (13, true), (14, true), (15, true), (16, true), (17, true), (18, true), (19, true), (20, true), (21, true), (22, true), (23, true), (24, false), (25, false), (26, false)] (Last.at0 w8 (fun W => w8.grownBy W none)) (by kernel_rfl) (by kernel_rfl) rfl (by kernel_rfl) (Last.shut_at0 (fun m => grown_drewN _ m none)) ⟨1, rfl⟩ ?_
            clear x0 x1 b1
            repeat (first
              | (refine Last.mix_rd1 rfl rfl (fun K hK => ?_); apply Exists.intro; refine ⟨fun W0 hW => ?_, ?_⟩; (obtain ⟨f0, f1⟩ := HXC W0 hW; go_simp; rfl); (go_simp; refine hK _ _ ?_; clear hK K))
              | (refine Last.mix_rdcall rfl rfl 62 #[.slice va vl vc, .int .i64 at2, .int .i64 q] (.int .i64 p) (fun W0 => by go_simp) (fun W0 hW => (PK.out W0 (S1.out.kept hW (fun _ _ _ _ _ => by simp))).mono (fun e w' ⟨h1, h2⟩ => ⟨h1, 0, h2⟩)) ?_))
            refine Last.mix_do rfl rfl ?_
            rintro W0 ⟨m1, rfl⟩
            refine ⟨.pointer (some ⟨g2, pf * 2, none⟩), w8.drewN m1, by go_simp, Last.at0 w8 (fun W => w8.grownBy W none), ⟨m1, rfl⟩, Last.shut_at0 (fun m => grown_drewN _ m none), .inr (fun _ h => h), ?_⟩
            refine Last.mix_do rfl rfl ?_
            rintro W0 ⟨m2, rfl⟩
            refine ⟨.pointer (some ⟨g2, pf * 2, none⟩), w8.drewN m2, by go_simp, Last.at0 w8 (fun W => w8.grownBy W none), ⟨m2, rfl⟩, Last.shut_at0 (fun m => grown_drewN _ m none), .inr (fun _ h => h), ?_⟩
            refine Last.mix_skip rfl rfl ?_
            rintro W0 ⟨m3, rfl⟩
            have y0 := (HXC _ (grown_drewN w8 m3 none)).1
            have y1 := (HXC _ (grown_drewN w8 m3 none)).2
            have yf0 : (w8.drewN m3).frozen? ⟨g2, pf * 2, none⟩ = false := xf0
            have yf1 : (w8.drewN m3).frozen? ⟨g2, pf * 2 + 1, none⟩ = false := xf1
            have G3 := hid_mk (grown_drewN w8 m3 none)
            generalize w8.drewN m3 = w3 at *
            refine ⟨w3.setCell ⟨g2, pf * 2, none⟩ (.slice ba (f.synced + p) bc), by go_simp, Last.at0 (w3.setCell ⟨g2, pf * 2, none⟩ (.slice ba (f.synced + p) bc)) (fun _ => True), ⟨0, rfl⟩, Last.shut_at0 (fun _ => trivial), .inl rfl, ?_⟩
            refine Last.mix_nil ?_
            rintro W0 ⟨m4, rfl⟩
            go_wp2_with fail
            have hfv : r.fv = .slice (some ⟨g2, 0, none⟩) st.1.length cap2 := HRW.out.2.2
            have R3 := rowsKept HRW.out.2.1 G3.out (noTag_none _ _)
            have sA := World.ownsRow.stored R3 (pf * 2) (.slice ba (f.synced + p) bc)
            have RB := rowsKept sA.1 (grown_drewN (w3.setCell ⟨g2, pf * 2, none⟩ (.slice ba (f.synced + p) bc)) m4 none) (noTag_none _ _)
            have sC := World.ownsRow.stored RB (pf * 2 + 1) (.int .i64 ((f.synced : Int) + (p : Int)))
            have GC := grown_same sA.2 (grown_after (grown_drewN _ m4 none) sC.2)
            have T3 : ∀ u, u ≠ 91 → NoTag w3 (some g2) u := fun u hu => noTag_rows R3 hu
            have I3 := I1.out.kept_none G3.out
            have HB3 := rowsKept HB.out.1 G3.out (noTag_none _ _)
            have hcw : cutW f.bv (f.synced + p) = .slice ba (f.synced + p) bc := by rw [HEB.out]; rfl
            have hfl1 : pf < st.1.length := by have := HRL.out.1; omega
            have hfc : rfCells (st.1.set pf (rcut f p)) = ((rfCells st.1).set (pf * 2) (.slice ba (f.synced + p) bc)).set (pf * 2 + 1) (.int .i64 ((f.synced : Int) + (p : Int))) := by
              have h1 : (st.1.set pf ⟨.slice ba (f.synced + p) bc, f.data.take (f.synced + p), f.synced⟩)[pf]? = some ⟨.slice ba (f.synced + p) bc, f.data.take (f.synced + p), f.synced⟩ := List.getElem?_set_self hfl1
              have h2 := rfCells_setS _ pf _ (f.synced + p) (f.data.take (f.synced + p)) h1
              rw [List.set_set, rfCells_setB _ pf f _ _ HF.out] at h2
              unfold rcut
              rw [hcw]
              exact h2
            have hpq : f.synced + p ≤ f.data.length := by have := HQ.out; omega
            refine ⟨⟨k2 + 1, at2 + 1, by omega, by omega, by simp, by simp, hid_mk ⟨(st.1.set pf (rcut f p), at2 + 1, st.2.2.set pf true), rfl, ?_⟩⟩, by simp [intOf]; omega⟩
            refine ⟨by rw [HKS.out]; exact HPK.out.symm, ?_, ?_, ?_, ?_, ?_⟩
            · exact I3.setFile (G := F) (w1 := w3) (fun _ h => h) (f' := rcut f p) HF.out (grown_refl _ _) (rcut_row (f.synced + p) HB3 hpq) (.inl (cutW_own _ _)) (by simp only; rw [hfv]; exact GC) (by simp only; rw [hfv, hfc]; exact sC.1) (by simp [rcut]; omega) (by simp [rcut]; omega)
            · exact rowsKept (rowsKept HM1.out.1 G3.out (noTag_none _ _)) GC (T3 4 (by decide))
            · exact (S1.out.kept G3.out (fun _ _ _ _ _ => by simp)).kept GC (fun g off cap h0 he e => by
                cases e
                exact (HSE.out _ off cap h0 he).1 HRW.out.1)
            · exact (D1.out.kept G3.out (noTag_none _ _)).kept GC (T3 94 (by decide))
            · exact K1.out.then ((Keeps.of_none G3.out).then (Keeps.one GC HRW.out.1))
        · have hlI2 : ¬ (k2 : Int) < (L : Int) := by omega
          obtain rfl : L = k2 := by omega
          have HL := hid_mk hl2
          have I1 := hid_mk hl2.ref
          obtain ⟨_, _, b2, b3, b4, b5, b6, bf⟩ := I1.out.dsk.all
          have f2 := bf 2
          have HLD := hid_mk (And.intro HD.out.1 hl2.dir)
          clear hl2 hst c1 bf
          have I2 := hid_mk (show IsRef (wr.setCell ⟨b, 2, none⟩ (.slice da L dc)) (fun k => F k ∨ w1.heap.size ≤ k) (N + 1) b { r with files := st.1, dv := .slice da L dc, dir := rleft cs r } from
            ((I1.out.monoF (G := fun k => F k ∨ w1.heap.size ≤ k) (fun k hk => .inl hk)).monoN (Nat.le_succ N)).dired (.slice da L dc) (rleft cs r) (row_to0 HLD.out.2) (fun k hk => .inr (row_low HLD.out.2 hk)) (fun k hk he => by
              have h1 := row_low HLD.out.2 hk
              have h2 := row_lt HI.out.sure he
              omega) (by have := HLD.out.1; have := HI.out.nS; omega) (grown_setCell _ _ _ _) (Blk.set I1.out.dsk 2 _))
          have HEM := hid_mk (show NmO ((wr.setCell ⟨b, 2, none⟩ (.slice da L dc)).alloc (.cells #[] 94)) (wr.setCell ⟨b, 2, none⟩ (.slice da L dc)).heap.size (.slice (some ⟨wr.heap.size, 0, none⟩) 0 0) [] from by
            have hhs : (wr.setCell ⟨b, 2, none⟩ (.slice da L dc)).heap.size = wr.heap.size := by simp
            have := heap_alloc_new (wr.setCell ⟨b, 2, none⟩ (.slice da L dc)) (.cells #[] 94)
            rw [hhs] at this
            exact nm_empty this (by omega))
          go_wp2_with (at_builtin; refine wpList_append_nm (wr.setCell ⟨b, 2, none⟩ (.slice da L dc)) _ rfl _ _ rfl (World.grownBy_alloc _ _ none) (.slice (some ⟨wr.heap.size, 0, none⟩) 0 0) [] rfl HEM.out (rleft cs r) (.slice da L dc) rfl (NmR.kept I2.out.dir.nmr (World.grownBy_alloc _ _ none)) (by have := HLD.out.1; simp; omega) ?_; intro a9 c9 w9 P9; rw [show ([] : List (ByteArray × Nat)).length + (rleft cs r).length = L by rw [HLD.out.1]; simp, List.nil_append] at P9; have I9 := hid_mk (I2.out.kept_none P9.out.2.1); obtain ⟨_, _, _, d3, d4, d5, d6, df⟩ := I9.out.dsk.all; have df3 := df 3; have df4 := df 4; have df5 := df 5; have df6 := df 6; clear df)
          go_end0
          have B3 : Blk (w9.setCell ⟨b, 3, none⟩ (.slice a9 L c9)) b #[.int .i64 r.quota, r.fv, .slice da L dc, .slice a9 L c9, r.cv, .int .i64 r.fuse, .bool r.off] 67 := Blk.set I9.out.dsk 3 _
          have B4 : Blk ((w9.setCell ⟨b, 3, none⟩ (.slice a9 L c9)).setCell ⟨b, 4, none⟩ (.slice none 0 0)) b #[.int .i64 r.quota, r.fv, .slice da L dc, .slice a9 L c9, .slice none 0 0, .int .i64 r.fuse, .bool r.off] 67 := Blk.set B3 4 _
          have B5 : Blk (((w9.setCell ⟨b, 3, none⟩ (.slice a9 L c9)).setCell ⟨b, 4, none⟩ (.slice none 0 0)).setCell ⟨b, 5, none⟩ (.int .i64 (-1))) b #[.int .i64 r.quota, r.fv, .slice da L dc, .slice a9 L c9, .slice none 0 0, .int .i64 (-1), .bool r.off] 67 := Blk.set B4 5 _
          have B6 : Blk ((((w9.setCell ⟨b, 3, none⟩ (.slice a9 L c9)).setCell ⟨b, 4, none⟩ (.slice none 0 0)).setCell ⟨b, 5, none⟩ (.int .i64 (-1))).setCell ⟨b, 6, none⟩ (.bool false)) b #[.int .i64 r.quota, r.fv, .slice da L dc, .slice a9 L c9, .slice none 0 0, .int .i64 (-1), .bool false] 67 := Blk.set B5 6 _
          have hlow : ∀ k, (Value.slice a9 L c9).ownBlock = some k → w1.heap.size ≤ k ∧ wr.heap.size ≤ k := fun k hk => by
            have h1 := row_low P9.out.1 hk
            have h2 := HL.out.keeps.size
            have h3 : (wr.setCell ⟨b, 2, none⟩ (.slice da L dc)).heap.size = wr.heap.size := by simp
            omega
          have I10 := I9.out.sured (.slice a9 L c9) (row_to0 P9.out.1) (fun k hk => .inr (hlow k hk).1) (fun k hk he => by
            have h1 := (hlow k he).2
            have h2 := row_lt HLD.out.2 hk
            omega) (grown_same (grown_setCell _ _ _ _) (grown_setCell _ _ _ _)) B4
          have I11 := I10.turned (grown_same (grown_setCell _ _ _ _) (grown_setCell _ _ _ _)) (-1) false (by omega) (by omega) B6
          refine ⟨rfl, ⟨.slice da L dc, .slice a9 L c9, ?_⟩, ?_⟩
          · have e : rcrashed cs r (.slice da L dc) (.slice a9 L c9) = ⟨r.quota, -1, false, r.fv, .slice da L dc, .slice a9 L c9, .slice none 0 0, st.1, rleft cs r, rleft cs r, []⟩ := by
              unfold rcrashed
              rw [← HLD.out.1, ← HL.out.eq]
            rw [e, ← HLD.out.1]
            exact I11
          · exact HL.out.keeps.then ((Keeps.one (grown_setCell _ _ _ _) HI.out.fB).then ((Keeps.of_none P9.out.2.1).then (Keeps.one (grown_same (grown_same (grown_setCell _ _ _ _) (grown_setCell _ _ _ _)) (grown_same (grown_setCell _ _ _ _) (grown_setCell _ _ _ _))) HI.out.fB)))

end Go.Proofs.Ytopablemfajecaa
