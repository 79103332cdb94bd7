/- reads: the document's book: Ask, Hear. -/
import Derived.Test.YthfdoliojbhcjaaBkQa
namespace Go.Proofs.Ythfdoliojbhcjaa
open Go.RowKit Go.Maps
set_option linter.unusedVariables false
set_option linter.unusedSimpArgs false
set_option maxRecDepth 100000

/-- Behind a call of the document's book. -/
def DP (w w' : World) (B b : Nat) (v : Value) (g : Bk) : Prop := ∃ v', IsD w' B b v' g ∧ Keeps (Ofb b v) w w' ∧ Nw w v v'
theorem DP.same {w w' : World} {B b : Nat} {v : Value} {g : Bk} (h : IsD w B b v g) (hg : w.grownBy w' none) : DP w w' B b v g := ⟨v, h.kept hg, Keeps.of_none hg, fun k e => .inl e⟩
/-- append(l, x), x a struct, to a row from B on. -/
theorem wp_appB {W : World} {B : Nat} {v : Value} {n : Nat} {xs : List Value} {t st : TypeId} {sz by' : Nat} {z : Value} (hu : Try.prog.underlying st = some (.slice t)) (hi : (Try.prog.info? t).map (fun i => (i.zero, i.size, i.bytes)) = some (some z, sz, by')) (hz : z.cells.size = sz) (h0 : 0 < sz) (hby : by' ≤ 24)
    (hB : B ≤ W.heap.size) (h : W.ownsRow B t sz v n xs) (news : List Value) (hln : news.length = sz) (hone : ∀ u ∈ news, u.oneCell' = true) (hl : n ≤ 1000000) {ops : Array Oper} {rest : List Oper} {o : Oper} {a : Act} {Q : Exit → Act → World → Prop} (hgd : o.guard = none) (s y : Operand)
    (ho : o.op = .call { callee := .builtin .append, args := #[s, y], argTypes := #[st, st] }) (hs : a.eval s = v) (hy : a.eval y = .slice (some ⟨W.heap.size, 0, none⟩) 1 1)
    (hc : ∀ a' c' W', Hid (W'.ownsRow B t sz (.slice a' (n + 1) c') (n + 1) (xs ++ news) ∧ W.grownBy W' v.ownBlock ∧ ((Value.slice a' (n + 1) c').ownBlock = v.ownBlock ∨ (Value.slice a' (n + 1) c').ownBlock = some (W.heap.size + 1))) → wpList Try.prog ops Q rest (a.put o.dst (.slice a' (n + 1) c')) W') :
    wpList Try.prog ops Q (o :: rest) a (W.alloc (.cells news.toArray t)) := by
  obtain ⟨i0, hi, hz0, hz1, hz2⟩ := info_parts hi
  have hgA := World.grownBy_alloc W (.cells news.toArray t) none
  have hw : (W.alloc (.cells news.toArray t)).ownsRow B t sz v n xs := owns_kept h hgA (fun _ _ _ => by simp)
  have hb24 : (n + 1) * by' ≤ (n + 1) * 24 := Nat.mul_le_mul_left _ hby
  refine wpList_append_own_at _ hgd s y st ho B t i0 z sz by' hu hi hz0 hz1 hz2 hz h0 v n xs hs hw ⟨W.heap.size, 0, none⟩ 1 1 news hy (by rw [hln, Nat.one_mul]) (fun j u hj => ?_) hone (by unfold maxLen; omega) (by omega) (by simp; omega) ?_
  · have e : (⟨W.heap.size, 0, none⟩ : Addr).add j = ⟨W.heap.size, j, none⟩ := by unfold Addr.add; split <;> simp_all
    rw [e, cell_of_row _ _ _ _ _ _ (heap_alloc_new W _)]
    simpa using hj
  · intro v' w' hown hgr2 _ hbl
    obtain ⟨a', c', rfl⟩ := row_shape hown
    refine hc a' c' w' (hid_mk ⟨hown, grown_trans (grown_any hgA _) hgr2, ?_⟩)
    simpa using hbl
theorem rask_bad {w : World} {B b : Nat} {v : Value} {g : Bk} (h : IsD w B b v g) (id ix rd : Int) (hn : ix < 0 ∨ rd < 0) : Calls Try.prog 22 #[.pointer (some ⟨b, 0, none⟩), .int .i64 id, .int .i64 ix, .int .i64 rd] w fun e w' => e = .returned (.int .i64 1) ∧ w' = w := by
  by_cases h1 : ix < 0
  · clear hn
    go_enter Try.func22, Try.ntmps22
    go_wp2
    go_ret
    exact ⟨rfl, rfl⟩
  · have h2 : rd < 0 := by omega
    clear hn
    go_enter Try.func22, Try.ntmps22
    go_wp2
    go_ret
    exact ⟨rfl, rfl⟩
theorem addD_ok {g : Bk} (h : OkD g) (hl : g.L.length < 100) (r : Rd) : OkD (addB g r) := ⟨h.me, h.len, by show (g.L ++ [r]).length ≤ 100; simp; omega⟩
set_option maxHeartbeats 2000000 in
theorem rask_go {w : World} {B b : Nat} {v : Value} {g : Bk} (h : IsD w B b v g) (id ix rd : Int) (h0 : 0 ≤ ix) (h1 : 0 ≤ rd) : Calls Try.prog 22 #[.pointer (some ⟨b, 0, none⟩), .int .i64 id, .int .i64 ix, .int .i64 rd] w fun e w' => e = .returned (.int .i64 (askE g id ix rd)) ∧ DP w w' B b v (askG g id ix rd) := by
  obtain ⟨va, vc, rfl⟩ := h.len
  have hl := h.ok.few
  have HB := hid_mk h
  have h0' : ¬ ix < 0 := by omega
  have h1' : ¬ rd < 0 := by omega
  have HE : Hid (askE g id ix rd = if g.L.any (fun r => r.id == id) then 4 else if 100 ≤ g.L.length then 7 else 0) := hid_mk (by unfold askE; rw [if_neg (by omega)])
  have c1 := h.c1
  clear h h0 h1
  obtain ⟨l, hle⟩ : ∃ l, l = g.L := ⟨_, rfl⟩
  rw [← hle] at hl HB HE c1
  have HL := hid_mk hle
  rw [← hle]
  clear hle
  go_enter Try.func22, Try.ntmps22
  go_wp2_with fail
  go_loopg [9] l.length (fun gg iv W => ∃ k : Nat, k ≤ l.length ∧ gg = l.length - k ∧ iv = .int .i64 k ∧ W = w ∧ Hid ((l.take k).any (fun r => r.id == id) = false))
  case atStart => exact ⟨0, Nat.zero_le _, rfl, rfl, rfl, hid_mk (by simp)⟩
  case round =>
    obtain ⟨k, hk, hgk, rfl, rfl, HI⟩ := hrel
    rename World => w
    by_cases hlt : k < l.length
    · have hlt' : (k : Int) < l.length := by omega
      obtain ⟨gb, cap, e, d0, d1, d2⟩ := OwnR.get (show OwnR 72 w B (.slice va l.length vc) l from by have := HB.out.row; rwa [← HL.out] at this) k hlt
      injection e with e1 e2 e3
      subst e1
      clear e2 e3
      have HT := hid_mk (any_take l (fun r => r.id == id) k hlt)
      by_cases hid : l[k].id = id
      · have HM := hid_mk (show l.any (fun r => r.id == id) = true from List.any_eq_true.2 ⟨_, List.getElem_mem hlt, by simpa using hid⟩)
        have HE2 := hid_mk (show askE g id ix rd = 4 by rw [HE.out, HM.out]; rfl)
        have hid' : (l[k].id == id) = true := by simpa using hid
        clear hid
        generalize l[k].id = x at *
        generalize l[k].ix = y at *
        generalize l[k].rd = z at *
        go_wp2
        go_ret
        refine ⟨ret_int HE2.out.symm, ?_⟩
        unfold askG
        rw [if_neg (by rw [HE2.out]; decide)]
        exact DP.same HB.out (grown_refl _ _)
      · have hid' : (l[k].id == id) = false := by simpa using hid
        rw [hid'] at HT
        clear hid
        generalize l[k].id = x at *
        generalize l[k].ix = y at *
        generalize l[k].rd = z at *
        go_wp2
        go_roundg (l.length - (k + 1))
        case measure => omega
        case rel => exact ⟨k + 1, by omega, rfl, by go_num, rfl, hid_mk (by rw [HT.out, HI.out]; rfl)⟩
    · have hlt' : ¬ (k : Int) < l.length := by omega
      have HN := hid_mk (show l.any (fun r => r.id == id) = false by have := HI.out; rwa [List.take_of_length_le (by omega)] at this)
      clear HI
      by_cases hf : 100 ≤ l.length
      · have hf' : (100 : Int) ≤ l.length := by omega
        have HE2 := hid_mk (show askE g id ix rd = 7 by rw [HE.out, HN.out, if_neg (by simp), if_pos hf])
        clear hf
        go_wp2
        go_ret
        refine ⟨ret_int HE2.out.symm, ?_⟩
        unfold askG
        rw [if_neg (by rw [HE2.out]; decide)]
        exact DP.same HB.out (grown_refl _ _)
      · have hf' : ¬ (100 : Int) ≤ l.length := by omega
        have HE2 := hid_mk (show askE g id ix rd = 0 by rw [HE.out, HN.out, if_neg (by simp), if_neg hf])
        have HF := hid_mk (show g.L.length < 100 by rw [← HL.out]; omega)
        have HLT := hid_mk (show B ≤ w.heap.size by have := HB.out.low; have := HB.out.blk.lt; omega)
        have HR := hid_mk (show w.ownsRow B 72 3 (.slice va l.length vc) l.length (rds l) by have := HB.out.row; rwa [← HL.out] at this)
        have nb := hid_mk (own_ne HR.out HB.out.blk (by decide))
        clear hf
        go_wp2_with (at_builtin; refine wp_appB Try.underlying56 info72 rfl (by decide) (by decide) HLT.out HR.out [.int .i64 id, .int .i64 ix, .int .i64 rd] rfl (one_rdC id ix rd) (by omega) rfl _ _ rfl rfl rfl ?_; intro a' c' W' HA; have hb4 := HB.out.blk.kept HA.out.2.1 nb.out; have HB4 := hid_mk hb4; have c1' : W'.cell? ⟨b, 1, none⟩ = some (.slice va l.length vc) := (by rw [hb4.cell]; rfl); have z1' := hb4.frozen 1; clear hb4)
        go_ret
        refine ⟨ret_int HE2.out.symm, ?_⟩
        unfold askG
        rw [if_pos HE2.out]
        have gS := grown_setCell W' b 1 (.slice a' (l.length + 1) c')
        have nb2 : ∀ g1, (Value.slice a' (l.length + 1) c').ownBlock = some g1 → some g1 ≠ some b := fun g1 e e2 => own_ne HA.out.1 HB4.out (by decide) (e2 ▸ e.symm)
        refine ⟨.slice a' (l.length + 1) c', ⟨?_, ?_, HB.out.low, addD_ok HB.out.ok HF.out _⟩, (Keeps.of_grown HA.out.2.1 (fun k e _ => .inr e)).thenZ (Keeps.one gS (.inl rfl)), fun k e => ?_⟩
        · have := HB4.out.set 1 (.slice a' (l.length + 1) c')
          rwa [dkL_row] at this
        · show World.ownsRow _ B 72 3 _ (g.L ++ [(⟨id, ix, rd⟩ : Rd)]).length (rds (g.L ++ [(⟨id, ix, rd⟩ : Rd)]))
          rw [rds_snoc, List.length_append, ← HL.out]
          exact owns_kept2 HA.out.1 gS nb2
        · rcases HA.out.2.2 with h | h
          · exact .inl (h ▸ e)
          · rw [h] at e
            injection e with e
            exact .inr (by omega)
theorem rask_any {w : World} {B b : Nat} {v : Value} {g : Bk} (h : IsD w B b v g) (id ix rd : Int) : Calls Try.prog 22 #[.pointer (some ⟨b, 0, none⟩), .int .i64 id, .int .i64 ix, .int .i64 rd] w fun e w' => e = .returned (.int .i64 (askE g id ix rd)) ∧ DP w w' B b v (askG g id ix rd) := by
  by_cases hn : ix < 0 ∨ rd < 0
  · have e1 : askE g id ix rd = 1 := by unfold askE; rw [if_pos hn]
    refine (rask_bad h id ix rd hn).mono ?_
    rintro e w' ⟨rfl, rfl⟩
    refine ⟨by rw [e1], ?_⟩
    unfold askG
    rw [if_neg (by rw [e1]; decide)]
    exact DP.same h (grown_refl _ _)
  · exact rask_go h id ix rd (by omega) (by omega)
/-! ### Hear -/
theorem rhear_bad {w : World} {B b : Nat} {v : Value} {g : Bk} (h : IsD w B b v g) (n r : Int) (hn : ¬ (0 ≤ n ∧ n < 16 ∧ 0 ≤ r)) : Calls Try.prog 23 #[.pointer (some ⟨b, 0, none⟩), .int .i64 n, .int .i64 r] w fun e w' => e = .returned (.int .i64 1) ∧ w' = w := by
  by_cases h1 : n < 0
  · clear hn
    go_enter Try.func23, Try.ntmps23
    go_wp2
    go_ret
    exact ⟨rfl, rfl⟩
  · by_cases h2 : 16 ≤ n
    · clear hn
      go_enter Try.func23, Try.ntmps23
      go_wp2
      go_ret
      exact ⟨rfl, rfl⟩
    · have h3 : r < 0 := by omega
      clear hn
      go_enter Try.func23, Try.ntmps23
      go_wp2
      go_ret
      exact ⟨rfl, rfl⟩
set_option maxHeartbeats 1000000 in
theorem rhear_ok {w : World} {B b : Nat} {v : Value} {g : Bk} (h : IsD w B b v g) (k : Nat) (r : Int) (hk : k < 16) (h0 : 0 ≤ r) : Calls Try.prog 23 #[.pointer (some ⟨b, 0, none⟩), .int .i64 k, .int .i64 r] w fun e w' => e = .returned (.int .i64 0) ∧ IsD w' B b v (hearB g k r) ∧ w.grownBy w' (some b) := by
  have hkl : k < g.H.length := by have := h.ok.len; omega
  obtain ⟨x, hx⟩ : ∃ x, g.H[k]? = some x := ⟨_, List.getElem?_eq_getElem hkl⟩
  have hxd : g.H.getD k 0 = x := by rw [List.getD_eq_getElem?_getD, hx]; rfl
  have HF : ∀ W, w.grownBy W none → W.cell? ⟨b, 2 + k, none⟩ = some (.int .i64 x) := fun W hg => dk_cell (h.kept hg).blk hx
  have HZ := hid_mk (fun W (hg : w.grownBy W none) => (h.kept hg).blk.frozen (2 + k))
  have H := hid_mk h
  have hk' : (k : Int) < 16 := by omega
  have hk1 : ¬ (k : Int) < 0 := by omega
  have hk2 : ¬ (16 : Int) ≤ (k : Int) := by omega
  have h0' : ¬ r < 0 := by omega
  obtain ⟨M, hM⟩ : ∃ M, M = max x r := ⟨_, rfl⟩
  have hif : (if x < r then r else x) = M := by rw [hM]; split <;> omega
  have hif2 : max x r = M := hM.symm
  have HMM := hid_mk (show max (g.H.getD k 0) r = M by rw [hxd, hM])
  clear hM h hkl hx hxd hk h0
  go_enter Try.func23, Try.ntmps23
  go_upto_region 3 with fail
  refine wp_region_mixL [(0, true), (1, true), (2, true), (3, true), (4, true), (5, true), (6, true), (7, true), (8, true), (9, true), (10, true), (11, true), (12, true)] 13 (at0 w (fun W => w.grownBy W none)) (by kernel_rfl) (by kernel_rfl) rfl (by kernel_rfl) rfl (by kernel_rfl) (shut_at0 (fun m => grown_drewN _ m none)) ⟨1, rfl⟩ ?_
  repeat (refine mix_rd1 rfl rfl (fun K hK => ?_); apply Exists.intro; refine ⟨fun W hW => ?_, ?_⟩; (have c1 := HF W hW; go_simp; rfl); (go_simp; refine hK _ _ ?_; clear hK K))
  refine mix_nil ?_
  refine ⟨rfl, ?_⟩
  rintro W ⟨m5, rfl⟩
  have c1 := HF (w.drewN m5) (grown_drewN _ m5 none)
  have HG1 := hid_mk (grown_drewN w m5 none)
  have z1 := HZ.out (w.drewN m5) HG1.out
  refine ⟨(w.drewN m5).setCell ⟨b, 2 + k, none⟩ (.int .i64 M), by go_simp, ?_⟩
  have HG2 := hid_mk (grown_trans (grown_any HG1.out (some b)) (grown_setCell (w.drewN m5) b (2 + k) (.int .i64 M)))
  have HB := hid_mk ((H.out.blk.kept HG1.out (by simp)).set (2 + k) (.int .i64 M))
  generalize (w.drewN m5).setCell ⟨b, 2 + k, none⟩ (.int .i64 M) = w2 at *
  clear c1 z1 HF
  go_wp2
  go_ret
  refine ⟨rfl, ⟨?_, owns_kept2 H.out.row HG2.out (fun g1 e e2 => own_ne H.out.row H.out.blk (by decide) (e2 ▸ e.symm)), H.out.low, ⟨H.out.ok.me, by simp [hearB, H.out.ok.len], H.out.ok.few⟩⟩, HG2.out⟩
  show Blk w2 b (dkL g.me (g.H.set k (max (g.H.getD k 0) r)) v).toArray 58
  rw [HMM.out, ← dkL_set]
  exact HB.out
theorem rhear_any {w : World} {B b : Nat} {v : Value} {g : Bk} (h : IsD w B b v g) (n r : Int) : Calls Try.prog 23 #[.pointer (some ⟨b, 0, none⟩), .int .i64 n, .int .i64 r] w fun e w' => e = .returned (.int .i64 (hearE n r)) ∧ DP w w' B b v (hearG g n r) := by
  by_cases hn : 0 ≤ n ∧ n < 16 ∧ 0 ≤ r
  · obtain ⟨k, rfl⟩ : ∃ k : Nat, n = k := ⟨n.toNat, by omega⟩
    refine (rhear_ok h k r (by omega) hn.2.2).mono ?_
    rintro e w' ⟨rfl, hb, hg⟩
    unfold hearE hearG
    rw [if_pos hn, if_pos hn]
    exact ⟨rfl, v, hb, Keeps.one hg (.inl rfl), fun k e => .inl e⟩
  · refine (rhear_bad h n r hn).mono ?_
    rintro e w' ⟨rfl, rfl⟩
    unfold hearE hearG
    rw [if_neg hn, if_neg hn]
    exact ⟨rfl, DP.same h (grown_refl _ _)⟩
theorem rclear_dp {w : World} {B b : Nat} {v : Value} {g : Bk} (h : IsD w B b v g) : Calls Try.prog 26 #[.pointer (some ⟨b, 0, none⟩)] w fun e w' => ∃ u, e = .returned u ∧ OwnI w' w.heap.size u (ids g.L) ∧ DP w w' B b v (newD g.me) := by
  refine (rclear_any h).mono ?_
  rintro e w' ⟨u, rfl, hu, hb, hg⟩
  exact ⟨u, rfl, hu, _, hb, Keeps.one hg (.inl rfl), (fun k e => by cases e)⟩
end Go.Proofs.Ythfdoliojbhcjaa
