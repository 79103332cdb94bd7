import Derived.Test.YtlpkphdgadgmiaaGreatDoorVCrashD
import Derived.Deep.CutRange
import Derived.Deep.LoopGhost
namespace Go.Proofs.YtlpkphdgadgmiaaGreatDoor.V
set_option maxRecDepth 100000
open Go.RowKit Go.Maps Go.WideMaps Go.WideElems Go.Sort Go.Shelf
set_option linter.unusedVariables false
set_option linter.unusedSimpArgs false

theorem len_slice (t e : TypeId) (ht : Tryz.prog.underlying t = some (.slice e)) (a : Option Addr) (n c : Nat) (ty : TypeId) (w : World) : (Builtin.len_ #[t] ty #[.slice a n c]).run Tryz.prog w = .ok (.int .i64 n) w := by
  simp [Builtin.len_, run_underlying ht, Builtin.lenOf, go_sem]

theorem index_slice (t e : TypeId) (ht : Tryz.prog.underlying t = some (.slice e)) (he : Tryz.prog.elem t = e) (hz : ∀ w, (sizeOf e).run Tryz.prog w = .ok 1 w) (g kk cap k : Nat) (h : k < kk) (w : World) :
    (Instr.indexAt t (.slice (some ⟨g, 0, none⟩) kk cap) (.int .i64 k)).run Tryz.prog w = .ok (.pointer (some ⟨g, k, none⟩)) w := by
  have ht' : Tryz.prog.underlying t = some (.slice (Tryz.prog.elem t)) := by rw [he]; exact ht
  rw [run_indexAt_slice w t _ kk cap .i64 k ht', if_pos ⟨by omega, by omega⟩, he, hz w]
  have hadd : ((⟨g, 0, none⟩ : Addr).add k) = ⟨g, k, none⟩ := by unfold Addr.add; split <;> simp_all
  simp [Result.andThen, hadd]
theorem elem52 : Tryz.prog.elem 68 = 114 := by kernel_rfl
theorem elem41 : Tryz.prog.elem 93 = 9 := by kernel_rfl

theorem prefix_row {w : World} {v : Value} {L kk : Nat} {vs : List Value} (row : w.ownsRow 0 114 1 v L vs) (hk : kk ≤ L) : ∃ cv cg, (∀ w, (Instr.slice 68 v none (some (.int .i64 kk)) none).run Tryz.prog w = .ok cv w) ∧
    (∀ w ty, (Builtin.len_ #[68] ty #[v]).run Tryz.prog w = .ok (.int .i64 L) w) ∧ (∀ w ty, (Builtin.len_ #[68] ty #[cv]).run Tryz.prog w = .ok (.int .i64 kk) w) ∧
    (∀ k w, k < kk → (Instr.indexAt 68 cv (.int .i64 k)).run Tryz.prog w = .ok (.pointer (some ⟨cg, k, none⟩)) w) ∧ ∀ k u, k < kk → vs[k]? = some u → w.cell? ⟨cg, k, none⟩ = some u ∧ ∃ cur, Blk w cg cur 114 := by
  rcases row.2 with ⟨rfl, rfl⟩ | ⟨g, cap, cur, rfl, _, hg, hc, hm, hsz, ht⟩
  · have : kk = 0 := by omega
    subst this
    exact ⟨.slice none 0 0, 0, fun w => slice_to none 0 0 0 (by omega) w, fun w ty => len_slice 68 114 Tryz.underlying68 _ _ _ ty w, fun w ty => len_slice 68 114 Tryz.underlying68 _ _ _ ty w, fun k w h => by omega, fun k u h => by omega⟩
  · refine ⟨.slice (some ⟨g, 0, none⟩) kk cap, g, fun w => slice_to _ L cap kk (by omega) w, fun w ty => len_slice 68 114 Tryz.underlying68 _ _ _ ty w, fun w ty => len_slice 68 114 Tryz.underlying68 _ _ _ ty w, fun k w h => ?_, fun k u h hu => ⟨?_, cur, hg⟩⟩
    · exact index_slice 68 114 Tryz.underlying68 elem52 Tryz.sizeOf83 g kk cap k h w
    · have := row_cell row k u hu
      have hadd : ((⟨g, 0, none⟩ : Addr).add k) = ⟨g, k, none⟩ := by unfold Addr.add; split <;> simp_all
      rw [hadd] at this
      exact this

theorem names_row {w : World} {B : Nat} {v : Value} {K : Nat} {vs : List Value} (row : w.ownsRow B 9 1 v K vs) : ∃ cg, (∀ w ty, (Builtin.len_ #[93] ty #[v]).run Tryz.prog w = .ok (.int .i64 K) w) ∧
    (∀ k w, k < K → (Instr.indexAt 93 v (.int .i64 k)).run Tryz.prog w = .ok (.pointer (some ⟨cg, k, none⟩)) w) ∧ ∀ k u, k < K → vs[k]? = some u → w.cell? ⟨cg, k, none⟩ = some u ∧ B ≤ cg ∧ ∃ cur, Blk w cg cur 9 := by
  rcases row.2 with ⟨rfl, rfl⟩ | ⟨g, cap, cur, rfl, hB, hg, hc, hm, hsz, ht⟩
  · exact ⟨0, fun w ty => len_slice 93 9 Tryz.underlying93 _ _ _ ty w, fun k w h => by omega, fun k u h => by omega⟩
  · refine ⟨g, fun w ty => len_slice 93 9 Tryz.underlying93 _ _ _ ty w, fun k w h => index_slice 93 9 Tryz.underlying93 elem41 Tryz.sizeOf9 g K cap k h w, fun k u h hu => ⟨?_, hB, cur, hg⟩⟩
    have := row_cell (row_base row (Nat.zero_le _)) k u hu
    have hadd : ((⟨g, 0, none⟩ : Addr).add k) = ⟨g, k, none⟩ := by unfold Addr.add; split <;> simp_all
    rw [hadd] at this
    exact this

theorem chooser_facts {w w1 : World} {v : Value} {cs : List Int} {F : Nat → Prop} (hw : w1 = (w.alloc (.cells #[v] 85)).alloc (.cells #[.int .i64 0] 3)) (hs : SrcI w v cs) (hsep : ∀ g off cap, 0 < cs.length → v = .slice (some ⟨g, off, none⟩) cs.length cap → ¬ F g ∧ g < w.heap.size) :
    w.grownBy w1 none ∧ Ch w1 (w.heap.size + 1) w.heap.size v cs 0 := by
  subst hw
  obtain ⟨g, b1, b2⟩ := two_blocks w #[v] #[.int .i64 0] 85 3
  refine ⟨g, ⟨by simpa using b2, b1, hs.kept g (fun _ _ _ _ _ => by simp), fun g0 off cap hp hv => ?_⟩⟩
  have := (hsep g0 off cap hp hv).2
  omega

theorem chg_later {w2 wc wr : World} {F : Nat → Prop} {N b ub bm n : Nat} {m : Mem} {ucs : Array Value} {D0 : DataW Unit} (hI2 : IsDisk w2 F N b m) (hu : Blk w2 ub ucs 3) (hg : w2.grownBy wc (some ub)) (hd : IsDir wc bm n D0) (hg' : wc.grownBy wr (some bm)) :
    (∀ c ∈ m.chs, ChgAt wr F c.1 c.2) ∧ (∀ cg cur, Blk w2 cg cur 114 → Blk wr cg cur 114) :=
  ⟨fun c hc => ((hI2.rest.chg c hc).keptN hg (noTag_blk hu (by decide)) (noTag_blk hu (by decide))).keptN hg' (noTag_dir hd 9) (noTag_dir hd 113), fun cg cur h => (h.keptN hg (noTag_blk hu (by decide))).keptN hg' (noTag_dir hd 114)⟩

def crashed (cs : List Int) (m : Mem) (bm bs' : Nat) : Mem :=
  { m with fuse := -1, gone := false, bn := bm, bs := bs', names := replay m.chs (pick cs 0 m.chs.length) m.synced, synced := replay m.chs (pick cs 0 m.chs.length) m.synced, chv := .slice none 0 0, chs := [],
           files := (crashTo cs (replay m.chs (pick cs 0 m.chs.length) m.synced) m.files (sortedKeys (replay m.chs (pick cs 0 m.chs.length) m.synced)).length).1 }

theorem round_calls {w wq : World} {F : Nat → Prop} {N b : Nat} {m : Mem} {v : Value} {cs : List Int} {ub cb bm : Nat} {D : DataW Unit} {sg k : Nat} (h : L2 w wq F N b m v cs ub cb bm D sg k) (hk : k < (sortedKeys D).length) (hnew : w.heap.size ≤ ub) (hsep : ∀ g off cap, 0 < cs.length → v = .slice (some ⟨g, off, none⟩) cs.length cap → ¬ F g) :
    ∃ (s : ByteArray) (f len sy : Nat) (dv : Value), wq.cell? ⟨sg, k, none⟩ = some (.string s) ∧ (Instr.lookup 67 (.map (some bm)) (.string s) false).run Tryz.prog wq = .ok (.pointer (some ⟨f, 0, none⟩)) wq ∧
      wq.cell? ⟨f, 0, none⟩ = some dv ∧ wq.cell? ⟨f, 1, none⟩ = some (.int .i64 sy) ∧ (∀ w ty, (Builtin.len_ #[49] ty #[dv]).run Tryz.prog w = .ok (.int .i64 len) w) ∧ IntKind.i64.wrap ((len : Int) - (sy : Int)) = ((len - sy : Nat) : Int) ∧
      Hid (Calls Tryz.prog 95 #[.int .i64 (len - sy : Nat), .pointer (some ⟨ub, 0, none⟩), .pointer (some ⟨cb, 0, none⟩)] wq.drew fun e w6 => ∃ n : Nat, e = .returned (.int .i64 n) ∧
        Hid (Calls Tryz.prog 55 #[.pointer (some ⟨f, 0, none⟩), .int .i64 n] w6 fun e w7 => e = .returned (.tuple #[]) ∧ Hid (L2 w w7 F N b m v cs ub cb bm D sg (k + 1)))) := by
  have hmem : (sortedKeys D)[k] ∈ sortedKeys D := List.getElem_mem hk
  obtain ⟨hsl, f, hf⟩ := keys_file h.dir h.good hmem
  obtain ⟨x, hx⟩ := h.good.at hf
  have hfile := h.rest.file f x hx
  obtain ⟨a, cap, hdv⟩ := row_len hfile.2.2.1
  obtain ⟨cur, hcur, hnm⟩ := h.nm (by omega)
  have hkey : key ⟨(sortedKeys D)[k].toArray⟩ = .string (sortedKeys D)[k] := by simp [key]
  have hsz : (⟨(sortedKeys D)[k].toArray⟩ : ByteArray).size ≤ maxLen := by
    show ((sortedKeys D)[k].toArray).size ≤ maxLen
    simpa using hsl
  have hlook := h.dir.look ⟨(sortedKeys D)[k].toArray⟩ hsz
  rw [hkey, hf] at hlook
  refine ⟨⟨(sortedKeys D)[k].toArray⟩, f, x.data.length, x.synced, x.dv, ?_, hlook, ?_, ?_, ?_, ?_, ?_⟩
  · rw [hcur.cell k]
    exact hnm k _ (List.getElem?_eq_getElem hk)
  · have := hfile.2.1.cell 0; simpa using this
  · have := hfile.2.1.cell 1; simpa using this
  · intro w ty; rw [hdv]; exact len_slice 49 5 Tryz.underlying49 _ _ _ ty w
  · have h1 := hfile.2.2.2.2.1
    have h2 := hfile.2.2.2.2.2
    rw [wrap_id _ (by omega) (by omega)]
    omega
  · have hdr : Ch wq.drew ub cb v cs (1 + k) := h.ch.kept (grown_drew wq none) (noTag_none _ _) (noTag_none _ _) (fun _ _ _ _ _ => by simp)
    have hlen := hfile.2.2.2.2.2
    refine (choose_any ub cb v cs (1 + k) (x.data.length - x.synced) wq.drew hdr (by omega)).mono ?_
    rintro e w6 ⟨rfl, hch, hg⟩
    have hg' : wq.grownBy w6 (some ub) := grown_trans (grown_drew wq _) hg
    refine ⟨_, rfl, ?_⟩
    have hfile6 : FileAt w6 F f x := hfile.keptN hg' (noTag_blk h.ch.u (by decide)) (noTag_blk h.ch.u (by decide))
    have hpk := pick_le cs (1 + k) (x.data.length - x.synced)
    refine (keep_any f x (pick cs (1 + k) (x.data.length - x.synced)) w6 hfile6 (by have := hfile.2.2.2.2.1; omega)).mono ?_
    rintro e w7 ⟨rfl, hb7, hg7⟩
    exact ⟨rfl, h.step hk f x hf hx hnew hsep hg' hch hg7 hb7⟩

set_option maxHeartbeats 4000000 in
theorem crash_ok (N b : Nat) (F : Nat → Prop) (m : Mem) (v : Value) (cs : List Int) (w : World) (h : IsDisk w F N b m) (hN : N < 1099511627776) (hs : SrcI w v cs) (hsep : ∀ g off cap, 0 < cs.length → v = .slice (some ⟨g, off, none⟩) cs.length cap → ¬ F g ∧ g < w.heap.size) :
    Calls Tryz.prog 14 #[.pointer (some ⟨b, 0, none⟩), v] w fun e w' => e = .returned (.tuple #[]) ∧ (∃ bm bs', IsDisk w' (fun k => F k ∨ w.heap.size ≤ k) N b (crashed cs m bm bs')) ∧ Keeps F w w' := by
  have c3 := h.dsk.cells.2.2.2.1
  have hvs : ∃ a n c, v = .slice a n c := by
    rcases hs.2.2 with ⟨⟨a0, c0, rfl⟩, _⟩ | ⟨g, off, cap, rfl, _⟩
    · exact ⟨_, _, _, rfl⟩
    · exact ⟨_, _, _, rfl⟩
  have H := hid_mk h
  have HN := hid_mk hN
  have HS := hid_mk hs
  have HQ := hid_mk hsep
  have HV := hid_mk hvs
  clear h hN hs hsep hvs
  go_enter Tryz.func14, Tryz.ntmps14
  go_wp2_with (first | (go_at_call 51; refine (made_ptr b (some m.bn) _ c3).mono ?_; rintro e w ⟨rfl, rfl⟩))
  go_wp2_with fail
  refine (chooser_any v _ HV.out).mono ?_
  rintro e w1 ⟨rfl, hw1⟩
  obtain ⟨g1, hCh⟩ := chooser_facts (F := F) hw1 HS.out HQ.out
  have HI1 := hid_mk (H.out.kept_none g1)
  have HC1 := hid_mk hCh
  have HG1 := hid_mk g1
  have c4 := HI1.out.dsk.cells.2.2.2.2.1
  clear hw1 hCh g1 c3
  go_wp2_with fail
  refine (clone_any m.bs N m.synced _ HI1.out.rest.synced).mono ?_
  rintro e w2 ⟨rfl, hc2, g2, hsz2⟩
  have HI2 := hid_mk (HI1.out.kept_none g2)
  have HC2 := hid_mk (HC1.out.kept g2 (noTag_none _ _) (noTag_none _ _) (fun _ _ _ _ _ => by simp))
  have HG2 := hid_mk (grown_trans HG1.out g2)
  have HD2 := hid_mk hc2.tight
  have HB2 := hid_mk (show w.heap.size ≤ w1.heap.size from HG1.out.size)
  have hkk := pick_le cs 0 m.chs.length
  have hLN : m.chs.length ≤ N := by have := HI2.out.rest.szS; omega
  obtain ⟨cv, cg, hsl, hlen, hlen2, hidx, hcell⟩ := prefix_row HI2.out.rest.row hkk
  have d5 := HI2.out.dsk.cells.2.2.2.2.2
  have hL : m.chs.length ≤ 4611686018427387903 := by have := HN.out; omega
  generalize hK : pick cs 0 m.chs.length = kk at *
  have HK := hid_mk hK
  have HX := hid_mk hidx
  have HY := hid_mk hcell
  clear hc2 g2 hsz2 c4 hK hidx hcell hLN
  generalize hbm : w1.heap.size = bm at *
  have HBM := hid_mk hbm
  clear hbm
  have HCC : Hid (Calls Tryz.prog 95 #[.int .i64 (m.chs.length : Nat), .pointer (some ⟨w.heap.size + 1, 0, none⟩), .pointer (some ⟨w.heap.size, 0, none⟩)] w2.drew fun e w3 => e = .returned (.int .i64 kk) ∧ (Ch w3 (w.heap.size + 1) w.heap.size v cs 1 ∧ w2.grownBy w3 (some (w.heap.size + 1))) ∧ w3.cell? ⟨b, 5, none⟩ = some m.chv) := by
    have hdr : Ch w2.drew (w.heap.size + 1) w.heap.size v cs 0 := HC2.out.kept (grown_drew w2 none) (noTag_none _ _) (noTag_none _ _) (fun _ _ _ _ _ => by simp)
    refine (choose_any (w.heap.size + 1) w.heap.size v cs 0 m.chs.length w2.drew hdr hL).mono ?_
    rintro e w3 ⟨rfl, hch, hg⟩
    have hg' : w2.grownBy w3 (some (w.heap.size + 1)) := grown_trans (grown_drew w2 _) hg
    refine ⟨by rw [HK.out], ⟨hch, hg'⟩, hg'.cell d5 ?_⟩
    exact fun e => noTag_blk HC2.out.u (u := 70) (by decide) _ _ HI2.out.dsk e
  go_upto_region 3 with fail
  go_cut [32, 33, 34] from 11 (fun s32 s33 s34 wx => s32 = cv ∧ s33 = .int .i64 (kk : Nat) ∧ s34 = .int .i64 0 ∧ Hid (Ch wx (w.heap.size + 1) w.heap.size v cs 1 ∧ w2.grownBy wx (some (w.heap.size + 1))))
  case first =>
    go_region_with (go_at_call 95; refine HCC.out.mono ?_; rintro e w3 ⟨rfl, hH3, d5'⟩; have HH3 := hid_mk hH3; clear hH3)
    all_goals
      go_wp2_with fail
      go_meet
      case rel => exact ⟨rfl, rfl, rfl, HH3⟩
  case rest =>
    obtain ⟨rfl, rfl, rfl, HH3⟩ := hcut
    have HDc := hid_mk (HD2.out.kept HH3.out.2 (ne_dir_blk HD2.out HC2.out.u))
    have hkN : kk ≤ N := Nat.le_trans hkk (by have := HI2.out.rest.szS; omega)
    have HSz := hid_mk (show Maps.size m.synced + m.chs.length ≤ N from HI2.out.rest.szS)
    have hkmax : kk ≤ 1099511627776 := by have := HN.out; omega
    go_wp2_with fail
    go_loopw [34] (fun i wr => ∃ k : Nat, k ≤ kk ∧ i = .int .i64 k ∧ Hid (IsDir wr bm (Maps.size m.synced + k) (replay m.chs k m.synced) ∧ wc.grownBy wr (some bm))) (fun i _ => kk - (intOf i).toNat)
    case atStart => exact ⟨0, Nat.zero_le _, rfl, HDc.out, grown_refl _ _⟩
    case round =>
      obtain ⟨k, hk, rfl, HR⟩ := hrel
      by_cases hlt : k < kk
      · have hkl : k < m.chs.length := Nat.lt_of_lt_of_le hlt hkk
        have hidx := fun w => HX.out k w hlt
        have HS2 := hid_mk (replay_succ m.chs k m.synced hkl)
        obtain ⟨hchg, hrow⟩ := chg_later HI2.out HC2.out.u HH3.out.2 HDc.out HR.out.2
        have hcell : wr.cell? ⟨cg, k, none⟩ = some (m.chs[k]).1 := by
          obtain ⟨h1, cur, h2⟩ := HY.out k (m.chs[k]).1 hlt (by simp [hkl])
          rw [(hrow cg cur h2).cell k, ← h2.cell k]; exact h1
        have hck := hchg m.chs[k] (List.getElem_mem hkl)
        have hbnd : Maps.size m.synced + k < maxLen := by have := HSz.out; have := HN.out; unfold maxLen; omega
        have HBnd := hid_mk hbnd
        clear hchg hrow hbnd hkN
        generalize m.chs[k] = c at hcell hck HS2
        clear hkl
        rcases hck with ⟨hkind, x, y, hv, hx, hy, _, _, hsn⟩ | ⟨hkind, x, y, z, hv, hx, hy, hz, _, _, _, hsn, hst⟩ | ⟨hkind, x, hv, hx, _, hsn⟩
        · rw [hv] at hcell
          have HE := hid_mk (show c.2.on (replay m.chs k m.synced) = (replay m.chs k m.synced).put (key c.2.name) (.lit (.int .i64 c.2.file)) by simp [Chg.on, hkind])
          clear hv hkind
          go_wp2_with (go_at_call 67; refine (create_clo bm _ _ x y c.2.file c.2.name _ HR.out.1 HBnd.out hx hy hsn).mono ?_; rintro e w4 ⟨rfl, hn4, hg4⟩)
          go_roundw
          case rel => exact ⟨k + 1, by omega, by go_num, by rw [HS2.out, HE.out]; exact hn4, grown_trans HR.out.2 hg4⟩
          case measure => simp [intOf]; omega
        · rw [hv] at hcell
          have HE := hid_mk (show c.2.on (replay m.chs k m.synced) = ((replay m.chs k m.synced).del (key c.2.name)).put (key c.2.to) (.lit (.int .i64 c.2.file)) by simp [Chg.on, hkind])
          clear hv hkind
          go_wp2_with (go_at_call 153; refine (rename_clo bm _ _ x y z c.2.file c.2.name c.2.to _ HR.out.1 HBnd.out hx hy hz hsn hst (fun e => ne_dir_blk HR.out.1 hy (by rw [e])) (fun e => ne_dir_blk HR.out.1 hz (by rw [e]))).mono ?_; rintro e w4 ⟨rfl, hn4, hg4⟩)
          go_roundw
          case rel => exact ⟨k + 1, by omega, by go_num, by rw [HS2.out, HE.out]; exact hn4, grown_trans HR.out.2 hg4⟩
          case measure => simp [intOf]; omega
        · rw [hv] at hcell
          have HE := hid_mk (show c.2.on (replay m.chs k m.synced) = (replay m.chs k m.synced).del (key c.2.name) by simp [Chg.on, hkind])
          clear hv hkind
          go_wp2_with (go_at_call 127; refine (remove_clo bm _ _ x c.2.name _ HR.out.1 hx hsn).mono ?_; rintro e w4 ⟨rfl, hn4, hg4⟩)
          go_roundw
          case rel => exact ⟨k + 1, by omega, by go_num, by rw [HS2.out, HE.out]; exact hn4.mono (by omega), grown_trans HR.out.2 hg4⟩
          case measure => simp [intOf]; omega
      · have hke : k = kk := by omega
        subst hke
        obtain ⟨hdwr, hgwr⟩ := HR.out
        have hbn : m.bn ≠ bm := by have h1 : m.bn < w1.heap.size := World.ownsMap.lt HI1.out.rest.names; have := HBM.out; omega
        have hbs : m.bs ≠ bm := by have h1 : m.bs < w1.heap.size := World.ownsMap.lt HI1.out.rest.synced; have := HBM.out; omega
        have hrc := HI2.out.rest.kept_disk HC2.out.u HH3.out.2 (by decide) (by decide) (by decide) (by decide) (by decide)
        have hrr := hrc.kept_dir HDc.out hgwr hbn hbs
        have hdk : Dsk wr b m.fuse m.gone m.quota m.bn m.bs m.chv := Blk.keptN (Blk.keptN HI2.out.dsk HH3.out.2 (noTag_blk HC2.out.u (by decide))) hgwr (noTag_dir HDc.out 70)
        have hch := HH3.out.1.kept hgwr (noTag_dir HDc.out 3) (noTag_dir HDc.out 85) (fun g off cap hp hv e => by
          have h1 := (HQ.out g off cap hp hv).2
          have h2 := HB2.out
          have h3 : g = bm := by simpa using e
          omega)
        have hgd := hrr.gS.replay hrr.gC k
        have hdN : IsDir wr bm N (replay m.chs k m.synced) := hdwr.mono (by have := HSz.out; omega)
        have HA := hid_mk (And.intro hrr (And.intro hdk (And.intro hch (And.intro hgd hdN))))
        have HKp : Hid (Keeps F w wr) := by
          have k1 : Keeps F w w2 := Keeps.of_grown HG2.out (fun k e _ => by cases e)
          have k2 : Keeps F w wc := ⟨HH3.out.2.os.trans k1.os, HH3.out.2.tape.trans k1.tape, HH3.out.2.output.trans k1.output, Nat.le_trans k1.size HH3.out.2.size, fun i hi hn => (HH3.out.2.block i (Nat.lt_of_lt_of_le hi k1.size) (by simp; omega)).trans (k1.block i hi hn)⟩
          exact ⟨hgwr.os.trans k2.os, hgwr.tape.trans k2.tape, hgwr.output.trans k2.output, Nat.le_trans k2.size hgwr.size, fun i hi hn => (hgwr.block i (Nat.lt_of_lt_of_le hi k2.size) (by have := HB2.out; simp; omega)).trans (k2.block i hi hn)⟩
        clear hdwr hgwr hbn hbs hrc hrr hdk hch hgd hdN hkN
        have HDD := hid_mk HK.out
        generalize hDe' : replay m.chs k m.synced = D at *
        have hDe := hid_mk hDe'
        clear hDe'
        go_wp2_with fail
        refine (sorted_any bm N D _ HA.out.2.2.2.2 HN.out).mono ?_
        rintro e w5 ⟨sv, rfl, hrow5, hg5⟩
        obtain ⟨sg, hlen5, hidx5, hcell5⟩ := names_row hrow5
        have hKl : (sortedKeys D).length = Maps.size D := sortedKeys_length D (World.ownsMap.isMap HA.out.2.2.2.2)
        obtain ⟨K, hKe⟩ : ∃ K, K = Maps.size D := ⟨_, rfl⟩
        rw [← hKe] at hlen5 hidx5 hcell5 hKl
        have HL0 : Hid (L2 w w5 F N b m v cs (w.heap.size + 1) w.heap.size bm D sg 0) := by
          have r5 := HA.out.1.kept_none hg5
          refine ⟨r5, HA.out.2.2.2.1, rfl, HA.out.2.2.1.kept hg5 (noTag_none _ _) (noTag_none _ _) (fun _ _ _ _ _ => by simp), HA.out.2.2.2.2.kept hg5 (by simp), Blk.kept HA.out.2.1 hg5 (by simp), fun hp => ?_, HKp.out.trans (Keeps.of_grown (F := F) hg5 (fun k e _ => by cases e)) (fun _ _ h => h)⟩
          obtain ⟨s0, hs0⟩ : ∃ s0, (sortedKeys D)[0]? = some s0 := ⟨_, List.getElem?_eq_getElem hp⟩
          obtain ⟨_, _, cur, hcur⟩ := hcell5 0 (encStr s0) (by omega) (by simp [hs0])
          refine ⟨cur, hcur, fun j s hs => ?_⟩
          have hj : j < (sortedKeys D).length := (List.getElem?_eq_some_iff.1 hs).1
          obtain ⟨h1, _⟩ := hcell5 j (encStr s) (by omega) (by simp [hs])
          rw [hcur.cell j] at h1
          exact h1
        have HKm : Hid (K ≤ 1099511627776) := by have h1 : Maps.size D ≤ N := World.ownsMap.size_le HA.out.2.2.2.2; have := HN.out; show K ≤ _; omega
        have hKm := HKm.out
        have HX5 := hid_mk hidx5
        have HKl := hid_mk hKl
        clear hcell5 hidx5 hrow5 hg5 hKl hKe
        go_wp2_with fail
        go_loopw [45] (fun i wq => ∃ q : Nat, q ≤ K ∧ i = .int .i64 q ∧ Hid (L2 w wq F N b m v cs (w.heap.size + 1) w.heap.size bm D sg q)) (fun i _ => K - (intOf i).toNat)
        case atStart => exact ⟨0, Nat.zero_le _, rfl, HL0⟩
        case round =>
          obtain ⟨q, hq, rfl, HL⟩ := hrel
          by_cases hlt2 : q < K
          · have hidx6 := fun w => HX5.out q w hlt2
            obtain ⟨s, f, len, sy, dv, hc1, hlk, hc2, hc3, hln, hwr, HCs⟩ := round_calls HL.out (by rw [HKl.out]; exact hlt2) (Nat.le_succ _) (fun g off cap hp hv => (HQ.out g off cap hp hv).1)
            go_wp2_with fail
            go_region_with (first | (go_at_call 95; refine HCs.out.mono ?_; rintro e w6 ⟨n6, rfl, HKP⟩) | (go_at_call 55; refine HKP.out.mono ?_; rintro e w7 ⟨rfl, HL7⟩))
            all_goals
              go_wp2_with fail
              go_roundw
              case rel => exact ⟨q + 1, by omega, by go_num, HL7⟩
              case measure => simp [intOf]; omega
          · have hqe : q = K := by omega
            subst hqe
            have hdk := HL.out.dsk
            have c3q := hdk.cells.2.2.2.1
            have f3q := hdk.frozen 3
            have h8 : Dsk (wr.setCell ⟨b, 3, none⟩ (.map (some bm))) b m.fuse m.gone m.quota bm m.bs m.chv := by have := Blk.set hdk 3 (.map (some bm)); simpa [Dsk] using this
            have g8 := grown_setCell wr b 3 (.map (some bm))
            have HD8 := hid_mk (And.intro h8 (HL.out.dir.kept g8 (ne_dir_blk HL.out.dir hdk)))
            have HG8 := hid_mk g8
            clear hdk h8 g8
            go_wp2_with (first
              | (go_at_call 56; refine (sure_any b _ _ _ _ _ _ bm N D _ HD8.out.1 HD8.out.2).mono ?_; rintro e w9 ⟨rfl, hd9, hs9, hg9⟩; have HH9 := hid_mk (And.intro hd9 (And.intro hs9 hg9)); clear hd9 hs9 hg9)
              | (go_at_call 57; refine (fresh_any _).mono ?_; rintro e w10 ⟨rfl, hg10⟩; have hd10 : Dsk w10 b _ _ _ _ _ _ := Blk.kept HH9.out.1 hg10 (by simp); have e0 := hd10.cells.1; have e1 := hd10.cells.2.1; have ef0 := hd10.frozen 0; have ef1 := hd10.frozen 1; have HH10 := hid_mk (And.intro hd10 hg10); clear hd10 hg10))
            go_end0
            have hd' : Dsk ((w10.setCell ⟨b, 0, none⟩ (.int .i64 (-1))).setCell ⟨b, 1, none⟩ (.bool false)) b (-1) false m.quota bm (wr.setCell ⟨b, 3, none⟩ (.map (some bm))).heap.size (.slice none 0 0) := by
              have h1 := Blk.set HH10.out.1 0 (.int .i64 (-1))
              have h2 := Blk.set h1 1 (.bool false)
              simpa [Dsk] using h2
            have gs := grown_trans (grown_setCell w10 b 0 (.int .i64 (-1))) (grown_setCell (w10.setCell ⟨b, 0, none⟩ (.int .i64 (-1))) b 1 (.bool false))
            have hlt8 : bm < (wr.setCell ⟨b, 3, none⟩ (.map (some bm))).heap.size := World.ownsMap.lt HD8.out.2
            obtain ⟨hI', hK'⟩ := crash_end HL.out H.out.fB HB2.out hlt8 HG8.out HD8.out.1 rfl HH9.out.2.2 HH9.out.2.1 (grown_trans (HH10.out.2.but (some b)) gs) HH9.out.1 hd'
            refine ⟨rfl, ⟨bm, (wr.setCell ⟨b, 3, none⟩ (.map (some bm))).heap.size, ?_⟩, hK'⟩
            have e1 : crashed cs m bm (wr.setCell ⟨b, 3, none⟩ (.map (some bm))).heap.size = { m with fuse := -1, gone := false, bn := bm, bs := (wr.setCell ⟨b, 3, none⟩ (.map (some bm))).heap.size, names := D, synced := D, chv := .slice none 0 0, chs := [], files := (crashTo cs D m.files q).1 } := by
              unfold crashed
              rw [HDD.out, hDe.out, HKl.out]
            rw [e1]
            exact hI'

end Go.Proofs.YtlpkphdgadgmiaaGreatDoor.V
