/- client: the law's own order and answer. -/
import Derived.Test.YtgebhomiehadmaaCcQ
namespace Go.Proofs.Ytgebhomiehadmaa
open Go.RowKit Go.Maps
set_option linter.unusedVariables false
set_option linter.unusedSimpArgs false
set_option maxRecDepth 100000

/-- append([]byte{}, l...). -/
theorem run_copyB {W : World} {B g : Nat} {v : Value} {l : List UInt8} (hown : Own W B (.slice (some ⟨g, 0, none⟩) 0 0) []) (hB : B ≤ W.heap.size) (h : Byt W v l) (hl : l.length ≤ 140737488355328) (ty : TypeId) :
    ∃ a' c' W', (Builtin.append_ #[33, 33] ty #[.slice (some ⟨g, 0, none⟩) 0 0, v]).run Try.prog W = .ok (.slice a' l.length c') W' ∧ Own W' B (.slice a' l.length c') l ∧ W.grownBy W' (some g) := by
  obtain ⟨i0, hi, hz0, hz1, hz2⟩ := info_parts info5
  have go : ∀ (ad : Addr) (c : Nat), v = .slice (some ad) l.length c → (∀ j u, (u8s l)[j]? = some u → W.cell? (ad.add j) = some u) → ∃ a' c' W', (Builtin.append_ #[33, 33] ty #[.slice (some ⟨g, 0, none⟩) 0 0, v]).run Try.prog W = .ok (.slice a' l.length c') W' ∧ Own W' B (.slice a' l.length c') l ∧ W.grownBy W' (some g) := by
    intro ad c hv hc
    obtain ⟨v', w', hr, hown', hg, _, _⟩ := run_append_own_at (P := Try.prog) W B 33 ty 5 i0 (.int .u8 0) 1 1 Try.underlying33 hi hz0 hz1 hz2 rfl (by decide) _ 0 [] hown ad l.length c (u8s l) (by simp [u8s_len]) hc (u8s_one l) (by unfold maxLen; omega) (by omega) hB
    simp only [Nat.zero_add, List.nil_append] at hown'
    obtain ⟨a', c', rfl⟩ := row_shape hown'
    exact ⟨a', c', w', by rw [hv]; exact hr, hown', hg⟩
  rcases h with ⟨rfl, av, cap, e, hn⟩ | ⟨b, off, cap, e, _, hc⟩
  · cases av with
    | none =>
      obtain rfl := hn rfl
      have hrun := run_append_owned_none (P := Try.prog) W B 33 ty 5 i0 1 Try.underlying33 hi _ 0 [] hown
      exact ⟨_, _, W, by rw [e]; exact hrun, hown, grown_refl _ _⟩
    | some ad => exact go ad cap e (fun j u hj => by simp [u8s] at hj)
  · refine go ⟨b, off, none⟩ cap e (fun j u hj => ?_)
    simp only [u8s, List.getElem?_map, Option.map_eq_some_iff] at hj
    obtain ⟨x, hx, rfl⟩ := hj
    rw [add_at]
    exact hc j x hx
/-- append(rows, u). -/
theorem appR {W : World} {B : Nat} {v : Value} {R : List RV} (h : OwnRec W B v R) {u : Value} {l : List UInt8} (hu : Own W B u l) (q : Nat) (hq : Blk W q #[u] 33) (hl : R.length + 1 ≤ 5864062014805) (hB : B ≤ W.heap.size) (ty : TypeId) :
    ∃ a' c' W', (Builtin.append_ #[36, 36] ty #[v, .slice (some ⟨q, 0, none⟩) 1 1]).run Try.prog W = .ok (.slice a' (R.length + 1) c') W' ∧ OwnRec W' B (.slice a' (R.length + 1) c') (R ++ [(l, u)]) ∧ W.grownBy W' v.ownBlock := by
  obtain ⟨i0, hi, hz0, hz1, hz2⟩ := info_parts info33
  obtain ⟨v', w', hr, hown, hg, _, hbl⟩ := run_append_own_at (P := Try.prog) W B 36 ty 33 i0 (.slice none 0 0) 1 24 Try.underlying36 hi hz0 hz1 hz2 rfl (by decide) v R.length (R.map (·.2)) h.1 ⟨q, 0, none⟩ 1 1 [u] rfl (fun j x hj => by
    rw [add_at, Nat.zero_add, hq.cell]; simpa using hj) (fun x hx => by simp at hx; subst hx; exact one_own hu) (by unfold maxLen; omega) (by omega) hB
  obtain ⟨a', c', rfl⟩ := row_shape hown
  have ne : ∀ {l : List UInt8} {x : Value}, Own W B x l → Own w' B x l := fun {l x} hx => hx.kept hg (by
    cases hv : v.ownBlock with
    | none => exact .inl rfl
    | some k => exact .inr (fun e => rows_apart hx h.1 (by decide) k e (by rw [hv])))
  refine ⟨a', c', w', hr, ⟨by rw [List.length_append, List.map_append]; exact hown, fun p hp => ?_⟩, hg⟩
  rcases List.mem_append.1 hp with hp | hp
  · exact ne (h.2 p hp)
  · simp at hp; subst hp; exact ne hu
set_option maxHeartbeats 2000000 in
theorem order_any {w : World} {v : Value} {l : List UInt8} (h : Byt w v l) (hl : l.length ≤ 140737488355328) (kd fr mo : Int) : Calls Try.prog 17 #[.agg #[.int .i64 kd, .int .i64 fr, .int .i64 mo, v]] w fun e w' => ∃ v', e = .returned (.agg #[.int .i64 kd, .int .i64 fr, .int .i64 mo, v']) ∧ Own w' w.heap.size v' l ∧ w.grownBy w' none := by
  obtain ⟨sa, sc, rfl⟩ := h.len
  have HG := hid_mk (ga2 w (.cells #[.int .i64 kd, .int .i64 fr, .int .i64 mo, .slice sa l.length sc] 35) (.cells #[.int .i64 0, .int .i64 0, .int .i64 0, .slice none 0 0] 42))
  have HB := hid_mk (blk_alloc2 w #[.int .i64 kd, .int .i64 fr, .int .i64 mo, .slice sa l.length sc] #[.int .i64 0, .int .i64 0, .int .i64 0, .slice none 0 0] 35 42)
  have HY := hid_mk (h.kept HG.out)
  clear h
  go_enter Try.func17, Try.ntmps17
  go_upto_region 1 with fail
  generalize ((w.alloc (.cells #[.int .i64 kd, .int .i64 fr, .int .i64 mo, .slice sa l.length sc] 35)).alloc (.cells #[.int .i64 0, .int .i64 0, .int .i64 0, .slice none 0 0] 42)) = w1 at *
  generalize hq : w.heap.size = q at *
  have HQ := hid_mk hq
  clear hq
  refine wp_region_mix [(0, true), (1, true), (2, true), (3, true), (4, true), (5, true), (7, true), (8, true), (6, false), (9, false), (10, true), (11, false)] (at0 w1 (fun W => Blk W q #[.int .i64 kd, .int .i64 fr, .int .i64 mo, .slice sa l.length sc] 35)) (by kernel_rfl) (by kernel_rfl) rfl (by kernel_rfl) (shut_at0 (fun m => HB.out.1.kept (grown_drewN _ m none) (by simp))) ⟨1, rfl⟩ ?_
  have HC := hid_mk (fun (W : World) (hW : Blk W q #[.int .i64 kd, .int .i64 fr, .int .i64 mo, .slice sa l.length sc] 35) => blk4 hW)
  repeat (refine mix_rd1 rfl rfl (fun K hK => ?_); apply Exists.intro; refine ⟨fun W hW => ?_, ?_⟩; (obtain ⟨e0, e1, e2, e3, ef⟩ := HC.out W hW; go_simp; rfl); (go_simp; refine hK _ _ ?_; clear hK K))
  refine mix_do rfl rfl ?_
  rintro W0 ⟨m1, rfl⟩
  refine ⟨.slice (some ⟨w1.heap.size, 0, none⟩) 0 0, (w1.drewN m1).alloc (.cells #[] 5), by go_simp, ?_⟩
  have G2 := grown_trans (grown_drewN w1 m1 none) (World.grownBy_alloc (w1.drewN m1) (.cells #[] 5) none)
  have H2 := hid_mk (And.intro G2 (show Own ((w1.drewN m1).alloc (.cells #[] 5)) w1.heap.size (.slice (some ⟨w1.heap.size, 0, none⟩) 0 0) [] from own_empty (w1.drewN m1)))
  clear G2
  generalize (w1.drewN m1).alloc (.cells #[] 5) = w2 at *
  refine ⟨at0 w2 (fun W => Blk W q #[.int .i64 kd, .int .i64 fr, .int .i64 mo, .slice sa l.length sc] 35), ⟨0, rfl⟩, shut_at0 (fun m => HB.out.1.kept (grown_trans H2.out.1 (grown_drewN _ m none)) (by simp)), fun _ h => h, ?_⟩
  go_simp
  refine mix_do rfl rfl ?_
  rintro W0 ⟨m2, rfl⟩
  obtain ⟨a', c', w3, hr, ho3, hg3⟩ := run_copyB (own_grown H2.out.2 (grown_drewN w2 m2 none)) (H2.out.1.size) (HY.out.kept (grown_trans H2.out.1 (grown_drewN w2 m2 none))) hl 33
  refine ⟨_, _, exec_app (s := .tmp 9) (y := .tmp 11) rfl rfl rfl hr, ?_⟩
  have H3 := hid_mk (And.intro (grown_new (grown_trans H2.out.1 (grown_drewN w2 m2 none)) hg3 (Nat.le_refl _)) ho3)
  clear ho3 hg3 hr
  refine ⟨at0 w3 (fun W => Blk W q #[.int .i64 kd, .int .i64 fr, .int .i64 mo, .slice sa l.length sc] 35), ⟨0, rfl⟩, shut_at0 (fun m => HB.out.1.kept (grown_trans H3.out.1 (grown_drewN _ m none)) (by simp)), fun _ h => h, ?_⟩
  go_simp
  repeat (refine mix_rd1 rfl rfl (fun K hK => ?_); apply Exists.intro; refine ⟨fun W hW => ?_, ?_⟩; (go_simp; rfl); (go_simp; refine hK _ _ ?_; clear hK K))
  refine mix_skip rfl rfl ?_
  rintro W0 ⟨m3, rfl⟩
  have hb4 := (HB.out.2.kept H3.out.1 (by simp)).kept (grown_drewN w3 m3 none) (by simp)
  obtain ⟨b0, b1, b2, b3, bf⟩ := blk4 hb4
  have h4 := setAll_all hb4 [.int .i64 kd, .int .i64 fr, .int .i64 mo, .slice a' l.length c'] rfl
  refine ⟨setAll (w3.drewN m3) (q + 1) 0 [.int .i64 kd, .int .i64 fr, .int .i64 mo, .slice a' l.length c'], by go_simp; rfl, ?_⟩
  have ho4 := own_grown H3.out.2 (grown_drewN w3 m3 none)
  have hq1 : q + 1 < w1.heap.size := HB.out.2.lt
  have hg4 := grown_new (grown_trans HG.out (grown_trans H3.out.1 (grown_drewN w3 m3 none))) h4.2 (by rw [HQ.out]; omega)
  have H4 := hid_mk (And.intro h4.1 (And.intro ((ho4.kept h4.2 (.inr (fun e => own_ne ho4 hb4 (by decide) e.symm))).base (show q ≤ w1.heap.size by omega)) (And.intro hg4 (show Blk (setAll (w3.drewN m3) (q + 1) 0 [.int .i64 kd, .int .i64 fr, .int .i64 mo, .slice a' l.length c']) q #[.int .i64 kd, .int .i64 fr, .int .i64 mo, .slice sa l.length sc] 35 from ((HB.out.1.kept H3.out.1 (by simp)).kept (grown_drewN w3 m3 none) (by simp)).kept h4.2 (by simp)))))
  clear h4 hb4 b0 b1 b2 b3 bf ho4 hq1 hg4
  generalize setAll (w3.drewN m3) (q + 1) 0 [.int .i64 kd, .int .i64 fr, .int .i64 mo, .slice a' l.length c'] = w4 at *
  refine ⟨at0 w4 (fun W => Blk W q #[.int .i64 kd, .int .i64 fr, .int .i64 mo, .slice sa l.length sc] 35), ⟨0, rfl⟩, shut_at0 (fun m => H4.out.2.2.2.kept (grown_drewN _ m none) (by simp)), fun _ h => h, ?_⟩
  go_simp
  refine mix_nil ?_
  rintro W ⟨m5, rfl⟩
  obtain ⟨b0, b1, b2, b3, bf⟩ := blk4 (H4.out.1.kept (grown_drewN w4 m5 none) (by simp))
  go_wp2
  exact bodyPost_ret (v := .agg #[.int .i64 kd, .int .i64 fr, .int .i64 mo, .slice a' l.length c']) (by simp [results, Try.results17, go_sem, b0, b1, b2, b3]) rfl ⟨_, rfl, by rw [HQ.out]; exact own_grown H4.out.2.1 (grown_drewN _ _ none), grown_trans H4.out.2.2.1 (grown_drewN _ _ none)⟩
end Go.Proofs.Ytgebhomiehadmaa
