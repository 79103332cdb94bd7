/- history: calls that a log answered: one round. -/
import Derived.Test.YthbfjpaimnhpgaaHWda
namespace Go.Proofs.Ythbfjpaimnhpgaa
open Go.RowKit Go.Maps
set_option linter.unusedVariables false
set_option linter.unusedSimpArgs false
set_option maxRecDepth 100000

theorem mod_in (z n : Int) (hn : 1 ≤ n) (hN : n ≤ 1000) : wrap64 (z.tmod n + n) = z.tmod n + n ∧ 0 ≤ (z.tmod n + n).tmod n ∧ (z.tmod n + n).tmod n < n := by
  have a := Int.lt_tmod_of_pos z (show 0 < n by omega)
  have b := Int.tmod_lt_of_pos z (show 0 < n by omega)
  refine ⟨by unfold wrap64; omega, ?_, Int.tmod_lt_of_pos _ (by omega)⟩
  rw [Int.tmod_eq_emod_of_nonneg (by omega)]
  exact Int.emod_nonneg _ (by omega)
/-- Within a round: the op's box and the new call's. -/
structure CI (w W : World) (bd : Nat) (vl : Value) (Rd : List RV) (s : Nat) (lv : Value) (L : List CE) (ov : Value) (O : List Int) (q0 : Nat) (ox : Array Value) (q1 : Nat) (cb : Array Value) : Prop where
  m : MaI w W bd vl Rd s lv L ov O
  x : Blk W q0 ox 32
  c : Blk W q1 cb 55
  ne : lv.ownBlock ≠ some q1
  le : w.heap.size ≤ q1
section
variable {w W W' : World} {bd : Nat} {vl : Value} {Rd : List RV} {s : Nat} {lv : Value} {L : List CE} {ov : Value} {O : List Int} {q0 : Nat} {ox : Array Value} {q1 : Nat} {cb : Array Value}
theorem CI.start (h : MaI w W bd vl Rd s lv L ov O) (hx : Blk W q0 ox 32) (cb : Array Value) : CI w (W.alloc (.cells cb 55)) bd vl Rd s lv L ov O q0 ox W.heap.size cb :=
  ⟨h.grown (World.grownBy_alloc _ _ none), hx.kept (World.grownBy_alloc W (.cells cb 55) none) (by simp), blk_alloc W cb 55, fun e => by have := (owns_lt h.l e).2; omega, h.gr.size⟩
theorem CI.grown (h : CI w W bd vl Rd s lv L ov O q0 ox q1 cb) (hg : W.grownBy W' none) : CI w W' bd vl Rd s lv L ov O q0 ox q1 cb := ⟨h.m.grown hg, h.x.kept hg (by simp), h.c.kept hg (by simp), h.ne, h.le⟩
theorem CI.set (h : CI w W bd vl Rd s lv L ov O q0 ox q1 cb) (j : Nat) (v : Value) {cb' : Array Value} (hc : cb.setIfInBounds j v = cb') : CI w (W.setCell ⟨q1, j, none⟩ v) bd vl Rd s lv L ov O q0 ox q1 cb' :=
  ⟨h.m.set h.c h.le h.ne j v, h.x.kept (grown_setCell W q1 j v) (fun e => by injection e with e; exact h.x.ne h.c (by decide) e), hc ▸ h.c.set j v, h.ne, h.le⟩
theorem CI.dcall (h : CI w W bd vl Rd s lv L ov O q0 ox q1 cb) {vl' : Value} {Rd' : List RV} {s' : Nat} (h1 : IsD W' w.heap.size bd vl' Rd' s') (h2 : MP W W' bd vl vl') : CI w W' bd vl' Rd' s' lv L ov O q0 ox q1 cb := by
  refine ⟨h.m.dcall h1 h2, h.x.keeps h2.keeps (fun e => ?_), h.c.keeps h2.keeps (fun e => ?_), h.ne, h.le⟩
  · rcases e with e | e
    · exact h.x.ne h.m.d.blk (by decide) e
    · exact own_ne h.m.d.row.1 h.x (by decide) e.symm
  · rcases e with e | e
    · exact h.c.ne h.m.d.blk (by decide) e
    · exact own_ne h.m.d.row.1 h.c (by decide) e.symm
/-- The call written down. -/
theorem CI.addl (h : CI w W bd vl Rd s lv L ov O q0 ox q1 cb) {i : Nat} (hi : L.length = i) (hi6 : i < 60) {x : CE} (hx : DE w W x) (ha : ∀ k, x.vr.ownBlock = some k → vl.ownBlock ≠ some k) (ty : TypeId) :
    ∃ a' c' W', (Builtin.append_ #[40, 40] ty #[lv, .slice (some ⟨W.heap.size, 0, none⟩) 1 1]).run Try.prog (W.alloc (.cells (calC x).toArray 55)) = .ok (.slice a' (i + 1) c') W' ∧ MaI w W' bd vl Rd s (.slice a' (i + 1) c') (L ++ [x]) ov O := by
  have hg := World.grownBy_alloc W (.cells (calC x).toArray 55) none
  have hm := h.m.grown hg
  obtain ⟨⟨da, dc, hd⟩, ⟨ra, rc, hr⟩⟩ := And.intro hx.d.len hx.r.len
  obtain ⟨a', c', W', hrun, hown, hgr⟩ := appD hm.l (x := x) (blk_alloc W (calC x).toArray 55) (fun z hz => by rw [List.mem_singleton.1 hz]; exact ⟨⟨_, _, _, hd⟩, ⟨_, _, _, hr⟩⟩) (by omega) hm.gr.size ty
  rw [hi] at hrun hown
  exact ⟨a', c', W', hrun, hm.addl hgr hown ⟨hx.d, hx.r.kept hg, hx.rs, hx.fit⟩ ha⟩
end
theorem MaI.addi {w W : World} {bd : Nat} {vl : Value} {Rd : List RV} {s : Nat} {lv : Value} {L : List CE} {ov : Value} {i : Nat} (h : MaI w W bd vl Rd s lv L ov (idsG i)) (hi6 : i < 60) (ty : TypeId) :
    ∃ a' c' W', (Builtin.append_ #[41, 41] ty #[ov, .slice (some ⟨W.heap.size, 0, none⟩) 1 1]).run Try.prog (W.alloc (.cells #[.int .i64 i] 3)) = .ok (.slice a' (i + 1) c') W' ∧ MaI w W' bd vl Rd s lv L (.slice a' (i + 1) c') (idsG (i + 1)) := by
  have hg := World.grownBy_alloc W (.cells #[.int .i64 (i : Int)] 3) none
  have hm := h.grown hg
  obtain ⟨a', c', W', hrun, hown, hgr⟩ := appI hm.o (z := (i : Int)) (blk_alloc W #[.int .i64 (i : Int)] 3) (by rw [idsG_len]; omega) hm.gr.size ty
  rw [idsG_len] at hrun hown
  rw [← idsG_succ] at hown
  exact ⟨a', c', W', hrun, hm.addo hgr hown⟩
theorem one_of {i : Nat} {x : Ca} (h1 : x.c = i) (h2 : 1 ≤ x.k) (h3 : x.k ≤ 3) (h4 : x.at' = 0) (h5 : x.an = true) (h6 : 0 ≤ x.b) (h7 : x.b ≤ 10 * i) (h8 : 10 * (i : Int) < x.e) (h9 : x.e ≤ 10 * i + 57) (h10 : i < 60) : OneMade i x := by
  refine ⟨h1, ?_, h7, h8, h5⟩
  unfold aloneG timeG
  simp only [Bool.and_eq_true, Bool.or_eq_true, decide_eq_true_eq]
  refine ⟨⟨⟨⟨⟨by omega, h2⟩, h3⟩, by omega⟩, by omega⟩, ⟨h6, by omega⟩, .inr ⟨by omega, by omega⟩⟩
theorem PI.put {L : List CE} {Rd : List RV} {s i : Nat} (h : PI L Rd s) (hi : L.length = i) (h60 : i < 60) {bb ee : Int} (hb : 0 ≤ bb ∧ bb ≤ 10 * i ∧ 10 * (i : Int) < ee ∧ ee ≤ 10 * i + 57) (d : List UInt8) (hd : d.length ≤ 140737488355328) (v u w : Value) : PI (L ++ [⟨⟨i, bb, ee, 1, 0, true, 0, 0, ((s : Int) + (Rd.length : Int)), 0, d, []⟩, v, u, []⟩]) (Rd ++ [(d, w)]) s := by
  have hle := h.le
  refine h.snoc (by rw [hi]; exact one_of rfl (by simp only; omega) (by simp only; omega) rfl rfl hb.1 hb.2.1 hb.2.2.1 hb.2.2.2 h60) ?_ ?_ ⟨.inl rfl, by simp only; omega, by simp only; omega, by simp only; omega, by simp only; omega⟩ (by rw [List.length_append]; simp; omega) (fun p hp => ?_)
  · rw [fits_of_put _ _ rfl]; simp [Mo.next]
  · unfold doM putM; simp
  · rcases List.mem_append.1 hp with hp | hp
    · exact h.sz p hp
    · rw [List.mem_singleton.1 hp]; exact hd
theorem PI.trim {L : List CE} {Rd : List RV} {s i : Nat} (h : PI L Rd s) (hi : L.length = i) (h60 : i < 60) {bb ee : Int} (hb : 0 ≤ bb ∧ bb ≤ 10 * i ∧ 10 * (i : Int) < ee ∧ ee ≤ 10 * i + 57) (d : List UInt8) (t0 : Int) (v u : Value) : PI (L ++ [⟨⟨i, bb, ee, 3, 0, true, t0, 0, 0, ((s : Int) + (goneM ⟨s, Rd.map (·.1)⟩ t0 : Nat)), d, []⟩, v, u, []⟩]) (Rd.drop (goneM ⟨s, Rd.map (·.1)⟩ t0)) (s + goneM ⟨s, Rd.map (·.1)⟩ t0) := by
  have hle := h.le
  have h8 : goneM ⟨s, Rd.map (·.1)⟩ t0 ≤ Rd.length := by
    have h7 : goneM ⟨s, Rd.map (·.1)⟩ t0 ≤ (Rd.map (·.1)).length := Nat.min_le_right _ _
    simpa using h7
  refine h.snoc (by rw [hi]; exact one_of rfl (by simp only; omega) (by simp only; omega) rfl rfl hb.1 hb.2.1 hb.2.2.1 hb.2.2.2 h60) ?_ ?_ ⟨.inr (.inr rfl), by simp only; omega, by simp only; omega, by simp only; omega, by simp only; omega⟩ (by rw [List.length_drop]; omega) (fun p hp => h.sz p (List.mem_of_mem_drop hp))
  · rw [fits_of_trim _ _ rfl]; simp [trimM]
  · unfold doM trimM; simp [List.map_drop]
theorem PI.get {L : List CE} {Rd : List RV} {s i : Nat} (h : PI L Rd s) (hi : L.length = i) (h60 : i < 60) {bb ee : Int} (hb : 0 ≤ bb ∧ bb ≤ 10 * i ∧ 10 * (i : Int) < ee ∧ ee ≤ 10 * i + 57) (d : List UInt8) (mo : Int) (v u : Value) (R : List RV) : PI (L ++ [⟨⟨i, bb, ee, 2, 0, true, s, mo, ((s : Int) + (Rd.length : Int)), s, d, (toldR Rd s s mo).map (·.1)⟩, v, u, R⟩]) Rd s := by
  have hle := h.le
  refine h.snoc (by rw [hi]; exact one_of rfl (by simp only; omega) (by simp only; omega) rfl rfl hb.1 hb.2.1 hb.2.2.1 hb.2.2.2 h60) ?_ ?_ ⟨.inr (.inl rfl), by simp only; omega, by simp only; omega, by simp only; omega, by simp only; omega⟩ (by omega) h.sz
  · rw [fits_of_get _ _ rfl, toldR_bytes]
    simp [hasM, Mo.next]
    omega
  · unfold doM; simp
theorem badC_st {x : CE} (h : x.g.k = 3) : calC (badC x) = (calC x).set 9 (.int .i64 (x.g.st + 1)) := by unfold badC; rw [if_pos h]; rfl
theorem badC_nu {x : CE} (h : x.g.k ≠ 3) : calC (badC x) = (calC x).set 8 (.int .i64 (x.g.nu + 1)) := by unfold badC; rw [if_neg h]; rfl
theorem badC_same (x : CE) : (badC x).vd = x.vd ∧ (badC x).vr = x.vr ∧ (badC x).R = x.R ∧ (badC x).g.d = x.g.d ∧ (badC x).g.rs = x.g.rs := by unfold badC; split <;> exact ⟨rfl, rfl, rfl, rfl, rfl⟩
end Go.Proofs.Ythbfjpaimnhpgaa
