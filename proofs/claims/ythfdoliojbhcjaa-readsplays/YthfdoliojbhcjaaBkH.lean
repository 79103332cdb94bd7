/- reads: Ask. -/
import Derived.Test.YthfdoliojbhcjaaBkG
namespace Go.Proofs.Ythfdoliojbhcjaa
open Go.RowKit Go.Maps
set_option linter.unusedVariables false
set_option linter.unusedSimpArgs false
set_option maxRecDepth 100000

def Ofb (b : Nat) (v : Value) (k : Nat) : Prop := k = b ∨ v.ownBlock = some k
def Nw (w : World) (v v' : Value) : Prop := ∀ k, v'.ownBlock = some k → v.ownBlock = some k ∨ w.heap.size ≤ k
theorem own_ne {W : World} {B : Nat} {e : TypeId} {size : Nat} {v : Value} {n : Nat} {xs : List Value} (h : W.ownsRow B e size v n xs) {b : Nat} {cs : Array Value} {t : TypeId} (hb : Blk W b cs t) (hn : t ≠ e) : some b ≠ v.ownBlock := fun e1 => by
  obtain ⟨_, c, hc⟩ := own_low h b e1.symm
  unfold Blk at hb
  rw [hb] at hc
  simp at hc
  exact hn hc.2
/-- What an Ask says first. -/
def askE (g : Bk) (id ix rd : Int) : Int := if ix < 0 ∨ rd < 0 then 1 else if g.L.any (fun r => r.id == id) then 4 else if 100 ≤ g.L.length then 7 else 0
theorem ask_bad {w : World} {B b : Nat} {v : Value} {g : Bk} (h : IsB w B b v g) (id ix rd : Int) (hn : ix < 0 ∨ rd < 0) : Calls Try.prog 13 #[.pointer (some ⟨b, 0, none⟩), .int .i64 id, .int .i64 ix, .int .i64 rd] w fun e w' => e = .returned (.int .i64 1) ∧ w.grownBy w' none := by
  have HD := hid_mk (made_any (h.kept (World.grownBy_alloc w (.cells #[.int .i64 id] 3) none)))
  clear h
  by_cases h1 : ix < 0
  · clear hn
    go_enter Try.func13, Try.ntmps13
    go_wp2_with (go_at_call 28; refine HD.out.mono ?_; rintro e w' ⟨rfl, nq, hw⟩; rw [hw]; clear hw)
    go_ret
    exact ⟨rfl, grown_trans (World.grownBy_alloc _ _ none) (grown_drewN _ _ none)⟩
  · have h2 : rd < 0 := by omega
    clear hn
    go_enter Try.func13, Try.ntmps13
    go_wp2_with (go_at_call 28; refine HD.out.mono ?_; rintro e w' ⟨rfl, nq, hw⟩; rw [hw]; clear hw)
    go_ret
    exact ⟨rfl, grown_trans (World.grownBy_alloc _ _ none) (grown_drewN _ _ none)⟩
def addB (g : Bk) (r : Rd) : Bk := ⟨g.me, g.H, g.L ++ [r]⟩
theorem addB_ok {g : Bk} (h : OkB g) (hl : g.L.length < 100) {r : Rd} (h0 : 0 ≤ r.rd) (h1 : r.rd ≤ 9223372036854775807) : OkB (addB g r) :=
  ⟨h.me, h.len, h.always, h.wf, by show (g.L ++ [r]).length ≤ 100; simp; omega, fun x hx => by
    rcases List.mem_append.1 hx with hx | hx
    · exact h.rds x hx
    · rw [List.mem_singleton.1 hx]; exact ⟨h0, h1⟩⟩
theorem bkL_row (m : Nat) (H : List Int) (v v' : Value) (hH : H.length = 16) : (bkL m H v).toArray.setIfInBounds 17 v' = (bkL m H v').toArray := by
  unfold bkL
  rw [List.setIfInBounds_toArray, List.set_cons_succ, List.set_append_right _ _ (by simp [i64s, hH])]
  simp [i64s, hH]
theorem exec_app {o : Oper} {a : Act} {s y : Operand} {st : TypeId} {v u v' : Value} {w w' : World} (ho : o.op = .call { callee := .builtin .append, args := #[s, y], argTypes := #[st, st] }) (hs : a.eval s = v) (hy : a.eval y = u)
    (hr : (Builtin.append_ #[st, st] o.type #[v, u]).run Try.prog w = .ok v' w') : (execOp a.eval o).run Try.prog w = .ok (.value v') w' := by
  simp [execOp, ho, resolve, invoke, builtin, hs, hy, hr, Result.andThen]
set_option maxHeartbeats 2000000 in
theorem ask_full {w : World} {B b : Nat} {v : Value} {g : Bk} (h : IsB w B b v g) (id ix rd : Int) (h0 : 0 ≤ ix) (h1 : 0 ≤ rd) (hn : askE g id ix rd ≠ 0) : Calls Try.prog 13 #[.pointer (some ⟨b, 0, none⟩), .int .i64 id, .int .i64 ix, .int .i64 rd] w fun e w' => e = .returned (.int .i64 (askE g id ix rd)) ∧ w.grownBy w' none := by
  have g0 := World.grownBy_alloc w (.cells #[.int .i64 id] 3) none
  have HD := hid_mk (made_any (h.kept g0))
  obtain ⟨va, vc, rfl⟩ := h.len
  have c17 := fun nq => ((h.kept g0).drew nq).c17
  have hl := h.ok.few
  have HC := hid_mk (fun W (hW : w.grownBy W none) (hc : W.cell? ⟨w.heap.size, 0, none⟩ = some (.int .i64 id)) => containsF_any 30 #[.pointer (some ⟨w.heap.size, 0, none⟩)] ent30 (fun r => r.id == id) va vc B g.L W (h.kept hW).row hl (fun W' hW' r => ask1_any r w.heap.size id W' (hW'.cell hc (by simp))))
  have HQ := hid_mk (fun W (hW : w.grownBy W none) => (h.kept hW).c17)
  have h0' : ¬ ix < 0 := by omega
  have h1' : ¬ rd < 0 := by omega
  have HE : Hid (askE g id ix rd = if g.L.any (fun r => r.id == id) then 4 else if 100 ≤ g.L.length then 7 else 0) := hid_mk (by unfold askE; rw [if_neg (by omega)])
  have HN := hid_mk hn
  have HCN := hid_mk (show (w.alloc (.cells #[.int .i64 id] 3)).cell? ⟨w.heap.size, 0, none⟩ = some (.int .i64 id) from by rw [cell_of_row _ _ _ _ _ _ (heap_alloc_new w _)]; rfl)
  have HG0 := hid_mk g0
  clear g0 h h0 h1 hn
  generalize hel : g.L.length = n at *
  have HEL := hid_mk hel
  clear hel
  go_enter Try.func13, Try.ntmps13
  go_upto_region 3 with (go_at_call 28; refine HD.out.mono ?_; rintro e w' ⟨rfl, nq, hw⟩; rw [hw]; clear hw)
  have HG1 := hid_mk (grown_trans HG0.out (grown_drewN _ nq none))
  have HC1 := hid_mk (HC.out _ HG1.out HCN.out)
  have c17' := c17 nq
  clear c17 HC HD
  generalize (w.alloc (.cells #[.int .i64 id] 3)).drewN nq = w1 at *
  go_wp2_with fail
  refine HC1.out.mono ?_
  rintro e w2 ⟨rfl, hg2⟩
  have HG2 := hid_mk (grown_trans HG1.out hg2)
  clear hg2 c17' HC1
  have c17 := HQ.out w2 HG2.out
  cases hany : g.L.any (fun r => r.id == id)
  · rw [hany] at HE
    have hfull : 100 ≤ n := by
      rcases Nat.lt_or_ge n 100 with h | h
      · exfalso
        apply HN.out
        rw [HE.out, if_neg (by simp), if_neg (by omega)]
      · exact h
    have hfull' : ((n : Nat) : Int) = 100 := by omega
    have HE2 := hid_mk (show askE g id ix rd = 7 by rw [HE.out, if_neg (by simp), if_pos hfull])
    obtain rfl : n = 100 := by omega
    clear HE HN hany
    go_wp2
    go_ret
    exact ⟨ret_int HE2.out.symm, HG2.out⟩
  · rw [hany] at HE
    have HE2 := hid_mk (show askE g id ix rd = 4 by rw [HE.out, if_pos rfl])
    clear HE HN hany
    go_wp2
    go_ret
    exact ⟨ret_int HE2.out.symm, HG2.out⟩
set_option maxHeartbeats 2000000 in
theorem ask_ok {w : World} {B b : Nat} {v : Value} {g : Bk} (h : IsB w B b v g) (id ix rd : Int) (h0 : 0 ≤ ix) (h1 : 0 ≤ rd) (h2 : rd ≤ 9223372036854775807) (hn : askE g id ix rd = 0) : Calls Try.prog 13 #[.pointer (some ⟨b, 0, none⟩), .int .i64 id, .int .i64 ix, .int .i64 rd] w fun e w' => e = .returned (.int .i64 0) ∧ ∃ v', IsB w' B b v' (addB g ⟨id, ix, rd⟩) ∧ Keeps (Ofb b v) w w' ∧ Nw w v v' := by
  have g0 := World.grownBy_alloc w (.cells #[.int .i64 id] 3) none
  have HD := hid_mk (made_any (h.kept g0))
  obtain ⟨va, vc, rfl⟩ := h.len
  have c17 := fun nq => ((h.kept g0).drew nq).c17
  have hl := h.ok.few
  have HC := hid_mk (fun W (hW : w.grownBy W none) (hc : W.cell? ⟨w.heap.size, 0, none⟩ = some (.int .i64 id)) => containsF_any 30 #[.pointer (some ⟨w.heap.size, 0, none⟩)] ent30 (fun r => r.id == id) va vc B g.L W (h.kept hW).row hl (fun W' hW' r => ask1_any r w.heap.size id W' (hW'.cell hc (by simp))))
  have HQ := hid_mk h
  have h0' : ¬ ix < 0 := by omega
  have h1' : ¬ rd < 0 := by omega
  have HE : Hid (g.L.any (fun r => r.id == id) = false ∧ g.L.length < 100) := hid_mk (by
    unfold askE at hn
    rw [if_neg (by omega)] at hn
    split at hn
    · cases hn
    · split at hn
      · cases hn
      · rename_i h3 h4
        exact ⟨by simpa using h3, by omega⟩)
  have HCN := hid_mk (show Blk (w.alloc (.cells #[.int .i64 id] 3)) w.heap.size #[.int .i64 id] 3 from heap_alloc_new w _)
  have HG0 := hid_mk g0
  have HB := hid_mk (And.intro h1 h2)
  clear g0 h h0 h1 h2 hn
  go_enter Try.func13, Try.ntmps13
  go_upto_region 3 with (go_at_call 28; refine HD.out.mono ?_; rintro e w' ⟨rfl, nq, hw⟩; rw [hw]; clear hw)
  have HG1 := hid_mk (grown_trans HG0.out (grown_drewN _ nq none))
  have HN1 := hid_mk (HCN.out.kept (grown_drewN _ nq none) (by simp))
  have HC1 := hid_mk (HC.out _ HG1.out (by rw [HN1.out.cell]; rfl))
  have c17' := c17 nq
  clear c17 HC HD HCN HG0
  generalize (w.alloc (.cells #[.int .i64 id] 3)).drewN nq = w1 at *
  go_wp2_with fail
  rw [HE.out.1] at HC1
  refine HC1.out.mono ?_
  rintro e w2 ⟨rfl, hg2⟩
  have HG2 := hid_mk (grown_trans HG1.out hg2)
  have HN2 := hid_mk (HN1.out.kept hg2 (by simp))
  clear hg2 c17' HC1 HG1 HN1
  have c17 := (HQ.out.kept HG2.out).c17
  have cid : w2.cell? ⟨w.heap.size, 0, none⟩ = some (.int .i64 id) := by rw [HN2.out.cell]; rfl
  have hlen := HE.out.2
  have hll : ¬ (100 : Int) ≤ (g.L.length : Int) := by omega
  go_upto_region 7 with fail
  have HF : ∀ W : World, (W.cell? ⟨b, 17, none⟩ = some (.slice va g.L.length vc) ∧ W.cell? ⟨w.heap.size, 0, none⟩ = some (.int .i64 id)) → W.cell? ⟨b, 17, none⟩ = some (.slice va g.L.length vc) ∧ W.cell? ⟨w.heap.size, 0, none⟩ = some (.int .i64 id) := fun W h => h
  refine wp_region_mixL [(0, true), (1, true), (2, true), (3, true), (4, true), (5, true), (6, true), (7, true), (8, true), (9, true), (10, false), (11, false), (12, true), (13, true)] 14 (at0 w2 (fun W => W.cell? ⟨b, 17, none⟩ = some (.slice va g.L.length vc) ∧ W.cell? ⟨w.heap.size, 0, none⟩ = some (.int .i64 id))) (by kernel_rfl) (by kernel_rfl) rfl (by kernel_rfl) rfl (by kernel_rfl) (shut_at0 (fun m => ⟨c17, cid⟩)) ⟨1, rfl⟩ ?_
  repeat (refine mix_rd1 rfl rfl (fun K hK => ?_); apply Exists.intro; refine ⟨fun W hW => ?_, ?_⟩; (obtain ⟨d1, d2⟩ := HF W hW; go_simp; rfl); (go_simp; refine hK _ _ ?_; clear hK K))
  refine mix_do rfl rfl ?_
  rintro W0 ⟨m3, rfl⟩
  refine ⟨.slice (some ⟨w2.heap.size, 0, none⟩) 1 1, (w2.drewN m3).alloc (.cells #[.int .i64 id, .int .i64 ix, .int .i64 rd] 66), by go_simp, ?_⟩
  have gA := grown_trans (grown_drewN w2 m3 none) (World.grownBy_alloc (w2.drewN m3) (.cells #[.int .i64 id, .int .i64 ix, .int .i64 rd] 66) none)
  have HA := hid_mk (show Blk ((w2.drewN m3).alloc (.cells #[.int .i64 id, .int .i64 ix, .int .i64 rd] 66)) w2.heap.size #[.int .i64 id, .int .i64 ix, .int .i64 rd] 66 ∧ w2.grownBy ((w2.drewN m3).alloc (.cells #[.int .i64 id, .int .i64 ix, .int .i64 rd] 66)) none from ⟨heap_alloc_new (w2.drewN m3) _, gA⟩)
  clear gA
  generalize (w2.drewN m3).alloc (.cells #[.int .i64 id, .int .i64 ix, .int .i64 rd] 66) = w3 at *
  refine ⟨at0 w3 (fun W => W.cell? ⟨b, 17, none⟩ = some (.slice va g.L.length vc) ∧ W.cell? ⟨w.heap.size, 0, none⟩ = some (.int .i64 id)), ⟨0, rfl⟩, shut_at0 (fun m => ⟨HA.out.2.cell c17 (by simp), HA.out.2.cell cid (by simp)⟩), fun _ h => h, ?_⟩
  go_simp
  refine mix_do rfl rfl ?_
  rintro W0 ⟨m4, rfl⟩
  have HB3 := hid_mk ((HQ.out.kept HG2.out).kept (grown_trans HA.out.2 (grown_drewN w3 m4 none)))
  have HN3 := hid_mk (HN2.out.kept (grown_trans HA.out.2 (grown_drewN w3 m4 none)) (by simp))
  obtain ⟨i0, hi, hz0, hz1, hz2⟩ := info_parts info66
  obtain ⟨v', w4, hr4, hown4, hg4, _, hbl4⟩ := run_append_own_at (P := Try.prog) (w3.drewN m4) B 43 43 66 i0 _ 3 24 Try.underlying43 hi hz0 hz1 hz2 rfl (by decide) (.slice va g.L.length vc) g.L.length (rds g.L) HB3.out.row ⟨w2.heap.size, 0, none⟩ 1 1 (rdC ⟨id, ix, rd⟩) rfl (fun j u hj => by
    have e : (⟨w2.heap.size, 0, none⟩ : Addr).add j = ⟨w2.heap.size, j, none⟩ := by unfold Addr.add; split <;> simp_all
    rw [e, (HA.out.1.kept (grown_drewN w3 m4 none) (by simp)).cell]
    rw [show (#[.int .i64 id, .int .i64 ix, .int .i64 rd] : Array Value) = (rdC ⟨id, ix, rd⟩).toArray from rfl]
    simpa using hj) (by simp [rdC, Value.oneCell']) (by unfold maxLen; omega) (by omega) (by have := HB3.out.low; have := HB3.out.blk.lt; omega)
  refine ⟨v', w4, exec_app (s := .tmp 39) (y := .tmp 45) rfl rfl rfl hr4, ?_⟩
  have HR4 := hid_mk hown4
  have nb := own_ne HB3.out.row HB3.out.blk (by decide)
  have nq := own_ne HB3.out.row HN3.out (by decide)
  have H4 := hid_mk (show Blk w4 b (bkL g.me g.H (.slice va g.L.length vc)).toArray 45 ∧ Blk w4 w.heap.size #[.int .i64 id] 3 ∧ Keeps (Ofb b (.slice va g.L.length vc)) w w4 ∧ Nw w (.slice va g.L.length vc) v' from
    ⟨HB3.out.blk.kept hg4 nb, HN3.out.kept hg4 nq, (Keeps.of_none (grown_trans HG2.out (grown_trans HA.out.2 (grown_drewN w3 m4 none)))).thenZ (Keeps.of_grown hg4 (fun k e _ => .inr e)), fun k e => by
      rcases hbl4 with h | h
      · exact .inl (h ▸ e)
      · rw [h] at e
        injection e with e
        have := (grown_trans HG2.out (grown_trans HA.out.2 (grown_drewN w3 m4 none))).size
        exact .inr (by omega)⟩)
  have d17 : w4.cell? ⟨b, 17, none⟩ = some (.slice va g.L.length vc) := by
    rw [H4.out.1.cell]
    simp [bkL, i64s, List.getElem?_append, HQ.out.ok.len]
  have did : w4.cell? ⟨w.heap.size, 0, none⟩ = some (.int .i64 id) := by rw [H4.out.2.1.cell]; rfl
  obtain ⟨va', vc', rfl⟩ := row_shape hown4
  refine ⟨at0 w4 (fun W => W.cell? ⟨b, 17, none⟩ = some (.slice va g.L.length vc) ∧ W.cell? ⟨w.heap.size, 0, none⟩ = some (.int .i64 id)), ⟨0, rfl⟩, shut_at0 (fun m => ⟨d17, did⟩), fun _ h => h, ?_⟩
  clear hr4 hown4 hg4 hbl4 nb nq HB3 HN3 c17 cid hi hz0 hz1 hz2
  repeat (refine mix_rd1 rfl rfl (fun K hK => ?_); apply Exists.intro; refine ⟨fun W hW => ?_, ?_⟩; (go_simp; rfl); (go_simp; refine hK _ _ ?_; clear hK K))
  refine mix_nil ?_
  try refine ⟨rfl, ?_⟩
  rintro W ⟨m5, rfl⟩
  have z17 := (H4.out.1.kept (grown_drewN w4 m5 none) (by simp)).frozen 17
  have e17 : (w4.drewN m5).cell? ⟨b, 17, none⟩ = some (.slice va g.L.length vc) := d17
  refine ⟨(w4.drewN m5).setCell ⟨b, 17, none⟩ (.slice va' (g.L.length + 1) vc'), by go_simp, ?_⟩
  have HG5 := hid_mk (grown_setCell (w4.drewN m5) b 17 (.slice va' (g.L.length + 1) vc'))
  have HB5 := hid_mk ((H4.out.1.kept (grown_drewN w4 m5 none) (by simp)).set 17 (.slice va' (g.L.length + 1) vc'))
  generalize (w4.drewN m5).setCell ⟨b, 17, none⟩ (.slice va' (g.L.length + 1) vc') = w5 at *
  clear z17 e17 d17 did
  go_wp2
  go_ret
  refine ⟨rfl, .slice va' (g.L.length + 1) vc', ⟨?_, ?_, HQ.out.low, addB_ok HQ.out.ok HE.out.2 HB.out.1 HB.out.2⟩, (H4.out.2.2.1.thenZ (Keeps.of_none (grown_drewN w4 m5 none))).thenZ (Keeps.one HG5.out (.inl rfl)), H4.out.2.2.2⟩
  · show Blk w5 b (bkL g.me g.H (.slice va' (g.L.length + 1) vc')).toArray 45
    rw [← bkL_row _ _ (.slice va g.L.length vc) _ HQ.out.ok.len]
    exact HB5.out
  · show w5.ownsRow B 66 3 _ (g.L ++ [(⟨id, ix, rd⟩ : Rd)]).length (rds (g.L ++ [(⟨id, ix, rd⟩ : Rd)]))
    rw [rds_snoc, List.length_append]
    refine owns_kept (owns_kept HR4.out (grown_drewN w4 m5 none) (fun _ _ _ => by simp)) HG5.out (fun g1 cur hh e => ?_)
    injection e with e
    subst e
    have := H4.out.1.kept (grown_drewN w4 m5 none) (by simp)
    unfold Blk at this
    rw [this] at hh
    simp at hh
end Go.Proofs.Ythfdoliojbhcjaa
