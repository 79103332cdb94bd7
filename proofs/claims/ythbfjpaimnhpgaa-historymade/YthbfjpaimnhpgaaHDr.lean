/- history: the document's model. -/
import Derived.Test.YthbfjpaimnhpgaaHKn
namespace Go.Proofs.Ythbfjpaimnhpgaa
open Go.RowKit Go.Maps
set_option linter.unusedVariables false
set_option linter.unusedSimpArgs false
set_option maxRecDepth 100000

theorem appR2 {W : World} {B : Nat} {v : Value} {R : List RV} (h : OwnRec W B v R) {u : Value} {l : List UInt8} (hu : Own W B u l) (q : Nat) (hq : Blk W q #[u] 30) (hl : R.length + 1 ≤ 5864062014805) (hB : B ≤ W.heap.size) (ty : TypeId) :
    ∃ a' c' W', (Builtin.append_ #[26, 26] ty #[v, .slice (some ⟨q, 0, none⟩) 1 1]).run Try.prog W = .ok (.slice a' (R.length + 1) c') W' ∧ OwnRec W' B (.slice a' (R.length + 1) c') (R ++ [(l, u)]) ∧ W.grownBy W' v.ownBlock ∧ ((Value.slice a' (R.length + 1) c').ownBlock = v.ownBlock ∨ (Value.slice a' (R.length + 1) c').ownBlock = some W.heap.size) := by
  obtain ⟨i0, hi, hz0, hz1, hz2⟩ := info_parts info30
  obtain ⟨v', w', hr, hown, hg, _, hbl⟩ := run_append_own_at (P := Try.prog) W B 26 ty 30 i0 (.slice none 0 0) 1 24 Try.underlying26 hi hz0 hz1 hz2 rfl (by decide) v R.length (R.map (·.2)) h.1 ⟨q, 0, none⟩ 1 1 [u] rfl (fun j x hj => by
    rw [add_at, Nat.zero_add, hq.cell]; simpa using hj) (fun x hx => by simp at hx; subst hx; exact one_own hu) (by unfold maxLen; omega) (by omega) hB
  obtain ⟨a', c', rfl⟩ := row_shape hown
  have ne : ∀ {l : List UInt8} {x : Value}, Own W B x l → Own w' B x l := fun {l x} hx => hx.kept hg (by
    cases hv : v.ownBlock with
    | none => exact .inl rfl
    | some k => exact .inr (fun e => rows_apart hx h.1 (by decide) k e (by rw [hv])))
  refine ⟨a', c', w', hr, ⟨by rw [List.length_append, List.map_append]; exact hown, fun p hp => ?_⟩, hg, hbl⟩
  rcases List.mem_append.1 hp with hp | hp
  · exact ne (h.2 p hp)
  · simp at hp; subst hp; exact ne hu

/-- append([][]byte{}, R...). -/
theorem run_copyR {W : World} {B g : Nat} {v : Value} {R : List RV} (hown : W.ownsRow B 30 1 (.slice (some ⟨g, 0, none⟩) 0 0) 0 []) (hB : B ≤ W.heap.size) (h : RecR W v R) (hl : R.length ≤ 5864062014805) (ty : TypeId) :
    ∃ a' c' W', (Builtin.append_ #[26, 26] ty #[.slice (some ⟨g, 0, none⟩) 0 0, v]).run Try.prog W = .ok (.slice a' R.length c') W' ∧ W'.ownsRow B 30 1 (.slice a' R.length c') R.length (R.map (·.2)) ∧ W.grownBy W' (some g) := by
  obtain ⟨i0, hi, hz0, hz1, hz2⟩ := info_parts info30
  have hone : ∀ u ∈ R.map (·.2), u.oneCell' = true := fun u hu => by
    obtain ⟨p, hp, rfl⟩ := List.mem_map.1 hu
    obtain ⟨a, c, e⟩ := (h.2 p hp).len
    rw [e]; rfl
  have go : ∀ (ad : Addr) (c : Nat), v = .slice (some ad) R.length c → (∀ j u, (R.map (·.2))[j]? = some u → W.cell? (ad.add j) = some u) → ∃ a' c' W', (Builtin.append_ #[26, 26] ty #[.slice (some ⟨g, 0, none⟩) 0 0, v]).run Try.prog W = .ok (.slice a' R.length c') W' ∧ W'.ownsRow B 30 1 (.slice a' R.length c') R.length (R.map (·.2)) ∧ W.grownBy W' (some g) := by
    intro ad c hv hc
    obtain ⟨v', w', hr, hown', hg, _, _⟩ := run_append_own_at (P := Try.prog) W B 26 ty 30 i0 (.slice none 0 0) 1 24 Try.underlying26 hi hz0 hz1 hz2 rfl (by decide) _ 0 [] hown ad R.length c (R.map (·.2)) (by simp) hc hone (by unfold maxLen; omega) (by omega) hB
    simp only [Nat.zero_add, List.nil_append] at hown'
    obtain ⟨a', c', rfl⟩ := row_shape hown'
    exact ⟨a', c', w', by rw [hv]; exact hr, hown', hg⟩
  rcases h.1 with ⟨rfl, av, cap, e, hn⟩ | ⟨b, off, cap, e, _, hc⟩
  · cases av with
    | none =>
      obtain rfl := hn rfl
      have hrun := run_append_owned_none (P := Try.prog) W B 26 ty 30 i0 1 Try.underlying26 hi _ 0 [] hown
      exact ⟨_, _, W, by rw [e]; exact hrun, hown, grown_refl _ _⟩
    | some ad => exact go ad cap e (fun j u hj => by simp at hj)
  · refine go ⟨b, off, none⟩ cap e (fun j u hj => ?_)
    simp only [List.getElem?_map, Option.map_eq_some_iff] at hj
    obtain ⟨x, hx, rfl⟩ := hj
    rw [add_at]
    exact hc j x hx
theorem ownR_empty (w : World) : (w.alloc (.cells #[] 30)).ownsRow w.heap.size 30 1 (.slice (some ⟨w.heap.size, 0, none⟩) 0 0) 0 [] :=
  World.ownsRow_made (e := 30) (size := 1) (base := w.heap.size) w #[] 0 (Nat.le_refl _) (by unfold maxLen; omega) (by simp)

/-- The document's model, in memory. -/
structure IsD (w : World) (B b : Nat) (vl : Value) (R : List RV) (s : Nat) : Prop where
  blk : Blk w b #[.int .i64 s, vl] 28
  row : OwnRec w B vl R
  fit : s + R.length ≤ 5864062014805
theorem IsD.grown {w w' : World} {B b : Nat} {vl : Value} {R : List RV} {s : Nat} (h : IsD w B b vl R s) (hg : w.grownBy w' none) : IsD w' B b vl R s := ⟨h.blk.kept hg (by simp), h.row.kept hg, h.fit⟩
theorem IsD.cells {w : World} {B b : Nat} {vl : Value} {R : List RV} {s : Nat} (h : IsD w B b vl R s) : w.cell? ⟨b, 0, none⟩ = some (.int .i64 s) ∧ w.cell? ⟨b, 1, none⟩ = some vl ∧ ∀ i, w.frozen? ⟨b, i, none⟩ = false := ⟨h.blk.cell 0, h.blk.cell 1, h.blk.frozen⟩
theorem IsD.lt {w : World} {B b : Nat} {vl : Value} {R : List RV} {s : Nat} (h : IsD w B b vl R s) {k : Nat} (hk : MF b vl k) : k < w.heap.size := by
  rcases hk with rfl | hk
  · exact h.blk.lt
  · exact (owns_lt h.row.1 hk).2
theorem IsD.keeps {w w' : World} {F : Nat → Prop} {B b : Nat} {vl : Value} {R : List RV} {s : Nat} (h : IsD w B b vl R s) (hk : Keeps F w w') (hb : ¬ F b) (hn : ∀ k, RecK vl R k → ¬ F k) : IsD w' B b vl R s := ⟨h.blk.keeps hk hb, h.row.keeps hk hn, h.fit⟩
theorem dnew_any (w : World) : IsD (w.alloc (.cells #[.int .i64 0, .slice none 0 0] 28)) w.heap.size w.heap.size (.slice none 0 0) [] 0 := ⟨blk_alloc w _ 28, OwnRec.nil _ _, by simp⟩
theorem dnext_any {w : World} {B b : Nat} {vl : Value} {R : List RV} {s : Nat} (h : IsD w B b vl R s) : Calls Try.prog 19 #[.pointer (some ⟨b, 0, none⟩)] w fun e w' => e = .returned (.int .i64 ((s + R.length : Nat) : Int)) ∧ ∃ m, w' = w.drewN m := by
  obtain ⟨c0, c1, cf⟩ := h.cells
  have hf := h.fit
  obtain ⟨a, c, rfl⟩ := h.row.len
  clear h
  go_enter Try.func19, Try.ntmps19
  go_upto_region 1 with fail
  go_quiet (fail)
  go_wp2
  go_ret
  exact ⟨ret_int (by omega), _, rfl⟩
/-- Own records, without the first ones. -/
theorem own_drop {w : World} {B : Nat} {v : Value} {R : List RV} (h : OwnRec w B v R) (hl : R.length ≤ 5864062014805) {i : Nat} (hi : i ≤ R.length) : ∃ a' c', (∀ w', (Instr.slice 26 v (some (.int .i64 i)) none none).run Try.prog w' = .ok (.slice a' (R.length - i) c') w') ∧ RecR w (.slice a' (R.length - i) c') (R.drop i) := by
  have hr := h.red
  rcases hr.1 with ⟨rfl, a, cap, rfl, hn⟩ | ⟨b, off, cap, rfl, hlc, hc⟩
  · obtain rfl : i = 0 := by simpa using hi
    refine ⟨if cap = 0 then a else a.map (·.add 0), cap, fun w' => ?_, ⟨.inl ⟨by simp, _, cap, rfl, fun e => ?_⟩, fun p hp => by simp at hp⟩⟩
    · rw [run_slice_l w' 26 a 0 cap under26 .i64 ((0 : Nat) : Int) (by omega) (by omega), elem26, Try.sizeOf30 w']
      simp only [Result.andThen, Int.toNat_natCast, sliced, Nat.mul_one, Nat.sub_zero, List.length_nil]
    · split at e
      · exact hn e
      · cases a with
        | none => exact hn rfl
        | some ad => cases e
  · refine ⟨if cap = i then some ⟨b, off, none⟩ else some ⟨b, off + i, none⟩, cap - i, fun w' => ?_, ⟨?_, fun p hp => hr.2 p (List.mem_of_mem_drop hp)⟩⟩
    · rw [run_slice_l w' 26 _ R.length cap under26 .i64 (i : Int) (by omega) (by omega), elem26, Try.sizeOf30 w']
      simp only [Result.andThen, Int.toNat_natCast, sliced, Nat.mul_one]
      split <;> simp [add_at]
    · rcases Nat.eq_or_lt_of_le hi with he | hlt
      · refine .inl ⟨List.drop_eq_nil_of_le (by omega), _, cap - i, by rw [he, Nat.sub_self], fun e => ?_⟩
        split at e <;> cases e
      · refine .inr ⟨b, off + i, cap - i, by rw [if_neg (by omega), List.length_drop], by rw [List.length_drop]; omega, fun j x hj => ?_⟩
        rw [List.getElem?_drop] at hj
        rw [Nat.add_assoc]
        exact hc _ x hj
set_option maxHeartbeats 4000000 in
theorem dput_any {w : World} {B b : Nat} {vl : Value} {R : List RV} {s : Nat} (h : IsD w B b vl R s) (hBw : B ≤ w.heap.size) (d : List UInt8) (v : Value) (hv : Byt w v d) (hd : d.length ≤ 140737488355328) (hf : s + R.length + 1 ≤ 5864062014805) :
    Calls Try.prog 11 #[.pointer (some ⟨b, 0, none⟩), v] w fun e w' => e = .returned (.int .i64 ((s + R.length : Nat) : Int)) ∧ ∃ vl' x, IsD w' B b vl' (R ++ [(d, x)]) s ∧ MP w w' b vl vl' ∧ Own w' w.heap.size x d := by
  have HM := hid_mk (And.intro h (And.intro hv hBw))
  obtain ⟨va, vc, rfl⟩ := h.row.len
  obtain ⟨ua, uc, rfl⟩ := hv.len
  clear h hv hBw
  go_enter Try.func11, Try.ntmps11
  go_upto_region 1 with fail
  refine wp_region_mixL [(0, true), (1, true), (2, true), (3, true), (4, true), (6, true), (5, false), (7, false), (8, false), (9, false), (10, true), (11, true)] 12 (at0 w (fun W => Blk W b #[.int .i64 s, .slice va R.length vc] 28)) (by kernel_rfl) (by kernel_rfl) rfl (by kernel_rfl) rfl (by kernel_rfl) (shut_at0 (fun m => HM.out.1.blk.kept (grown_drewN _ m none) (by simp))) ⟨1, rfl⟩ ?_
  have HC := hid_mk (fun (W : World) (hW : Blk W b #[.int .i64 s, .slice va R.length vc] 28) => show W.cell? ⟨b, 0, none⟩ = some (.int .i64 s) ∧ W.cell? ⟨b, 1, none⟩ = some (.slice va R.length vc) ∧ ∀ i, W.frozen? ⟨b, i, none⟩ = false from ⟨hW.cell 0, hW.cell 1, hW.frozen⟩)
  repeat (refine mix_rd1 rfl rfl (fun K hK => ?_); apply Exists.intro; refine ⟨fun W hW => ?_, ?_⟩; (obtain ⟨x0, x1, xf⟩ := HC.out W hW; go_simp; rfl); (go_simp; refine hK _ _ ?_; clear hK K))
  refine mix_do rfl rfl ?_
  rintro W0 ⟨m1, rfl⟩
  refine ⟨.slice (some ⟨w.heap.size, 0, none⟩) 0 0, (w.drewN m1).alloc (.cells #[] 5), by go_simp, ?_⟩
  have HE := hid_mk (own_empty (w.drewN m1))
  have G2 := hid_mk (grown_trans (grown_drewN w m1 none) (World.grownBy_alloc (w.drewN m1) (.cells #[] 5) none))
  refine ⟨at0 ((w.drewN m1).alloc (.cells #[] 5)) (fun W => Blk W b #[.int .i64 s, .slice va R.length vc] 28), ⟨0, rfl⟩, shut_at0 (fun m => (HM.out.1.blk.kept G2.out (by simp)).kept (grown_drewN _ m none) (by simp)), fun _ h => h, ?_⟩
  go_simp
  rw [show (w.drewN m1).heap.size = w.heap.size from rfl] at HE
  generalize (w.drewN m1).alloc (.cells #[] 5) = W2 at *
  refine mix_do rfl rfl ?_
  rintro W0 ⟨m2, rfl⟩
  have g2d := grown_trans G2.out (grown_drewN W2 m2 none)
  obtain ⟨a1, c1, W3, hr1, ho1, hg1⟩ := run_copyB (own_grown HE.out (grown_drewN W2 m2 none)) g2d.size (HM.out.2.1.kept g2d) hd 30
  have G3 := hid_mk (show w.grownBy W3 none from grown_new g2d hg1 (Nat.le_refl _))
  have HO1 := hid_mk ho1
  refine ⟨_, _, exec_app (s := .tmp 10) (y := .tmp 11) rfl rfl rfl hr1, at0 W3 (fun W => Blk W b #[.int .i64 s, .slice va R.length vc] 28), ⟨0, rfl⟩, shut_at0 (fun m => (HM.out.1.blk.kept G3.out (by simp)).kept (grown_drewN _ m none) (by simp)), fun _ h => h, ?_⟩
  clear g2d hr1 ho1 hg1 HE G2
  go_simp
  refine mix_do rfl rfl ?_
  rintro W0 ⟨m4, rfl⟩
  refine ⟨.slice (some ⟨W3.heap.size, 0, none⟩) 1 1, (W3.drewN m4).alloc (.cells #[.slice a1 d.length c1] 30), by go_simp, ?_⟩
  have g6 := grown_trans (grown_drewN W3 m4 none) (World.grownBy_alloc (W3.drewN m4) (.cells #[.slice a1 d.length c1] 30) none)
  have G6 := hid_mk (grown_trans G3.out g6)
  have HO6 := hid_mk (own_grown HO1.out g6)
  have HBC := hid_mk (show Blk ((W3.drewN m4).alloc (.cells #[.slice a1 d.length c1] 30)) W3.heap.size #[.slice a1 d.length c1] 30 from blk_alloc (W3.drewN m4) _ 30)
  refine ⟨at0 ((W3.drewN m4).alloc (.cells #[.slice a1 d.length c1] 30)) (fun W => Blk W b #[.int .i64 s, .slice va R.length vc] 28), ⟨0, rfl⟩, shut_at0 (fun m => (HM.out.1.blk.kept G6.out (by simp)).kept (grown_drewN _ m none) (by simp)), fun _ h => h, ?_⟩
  go_simp
  clear g6 G3 HO1
  generalize (W3.drewN m4).alloc (.cells #[.slice a1 d.length c1] 30) = W6 at *
  generalize W3.heap.size = q5 at *
  refine mix_do rfl rfl ?_
  rintro W0 ⟨m5, rfl⟩
  have g6d := grown_trans G6.out (grown_drewN W6 m5 none)
  have hrow := HM.out.1.row.kept g6d
  obtain ⟨a3, c3, W7, hr3, ho3, hg3, hbl3⟩ := appR2 hrow (own_grown HO6.out (grown_drewN W6 m5 none) |>.base HM.out.2.2) q5 (HBC.out.kept (grown_drewN W6 m5 none) (by simp)) (by omega) (Nat.le_trans HM.out.2.2 g6d.size) 26
  have hbb := HM.out.1.blk.kept g6d (by simp)
  have hbr : some b ≠ (Value.slice va R.length vc).ownBlock := own_ne hrow.1 hbb (by decide)
  have HB7 := hid_mk (hbb.kept hg3 hbr)
  have HO7 := hid_mk (show Own W7 w.heap.size (.slice a1 d.length c1) d from by
    have h8 := own_grown HO6.out (grown_drewN W6 m5 none)
    cases hv4 : (Value.slice va R.length vc).ownBlock with
    | none => rw [hv4] at hg3; exact own_grown h8 hg3
    | some g =>
      rw [hv4] at hg3
      obtain ⟨_, c, hcc⟩ := own_low hrow.1 g hv4
      exact own_but h8 hg3 hcc (by decide))
  have HK7 := hid_mk (show Keeps (MF b (.slice va R.length vc)) w W7 from keeps_then (Keeps.of_none g6d) (Keeps.of_grown hg3 (fun k e _ => Or.inr e)) (fun k _ e => e))
  have HNW := hid_mk (show ∀ k, (Value.slice a3 (R.length + 1) c3).ownBlock = some k → (Value.slice va R.length vc).ownBlock = some k ∨ w.heap.size ≤ k from fun k e => by
    rcases hbl3 with h9 | h9
    · rw [h9] at e; exact .inl e
    · rw [h9] at e; cases e; exact .inr g6d.size)
  have HR7 := hid_mk ho3
  refine ⟨_, _, exec_app (s := .tmp 9) (y := .tmp 13) rfl rfl rfl hr3, at0 W7 (fun W => Blk W b #[.int .i64 s, .slice va R.length vc] 28), ⟨0, rfl⟩, shut_at0 (fun m => HB7.out.kept (grown_drewN _ m none) (by simp)), fun _ h => h, ?_⟩
  clear g6d hrow hr3 ho3 hg3 hbl3 hbb hbr HBC HO6 G6
  go_simp
  repeat (refine mix_rd1 rfl rfl (fun K hK => ?_); apply Exists.intro; refine ⟨fun W hW => ?_, ?_⟩; (obtain ⟨x0, x1, xf⟩ := HC.out W hW; go_simp; rfl); (go_simp; refine hK _ _ ?_; clear hK K))
  refine mix_nil ?_
  rintro W ⟨m6, rfl⟩
  have hb8 := HB7.out.kept (grown_drewN W7 m6 none) (by simp)
  have b7 : (W7.drewN m6).cell? ⟨b, 1, none⟩ = some (.slice va R.length vc) := hb8.cell 1
  have f7 : (W7.drewN m6).frozen? ⟨b, 1, none⟩ = false := hb8.frozen 1
  have HX := hid_mk (show IsD ((W7.drewN m6).setCell ⟨b, 1, none⟩ (.slice a3 (R.length + 1) c3)) B b (.slice a3 (R.length + 1) c3) (R ++ [(d, .slice a1 d.length c1)]) s ∧ MP w ((W7.drewN m6).setCell ⟨b, 1, none⟩ (.slice a3 (R.length + 1) c3)) b (.slice va R.length vc) (.slice a3 (R.length + 1) c3) ∧ Own ((W7.drewN m6).setCell ⟨b, 1, none⟩ (.slice a3 (R.length + 1) c3)) w.heap.size (.slice a1 d.length c1) d from
    ⟨⟨hb8.set 1 _, (HR7.out.kept (grown_drewN W7 m6 none)).but (grown_setCell _ b 1 _) hb8 (by decide) (by decide), by simp; omega⟩,
     ⟨keeps_set (keeps_then HK7.out (Keeps.of_none (F := MF b (.slice va R.length vc)) (grown_drewN W7 m6 none)) (fun k _ e => e)) (.inl rfl) _ _, fun k e => by
        rcases e with e | e
        · exact .inl (.inl e)
        · exact (HNW.out k e).imp .inr id⟩,
     own_but (own_grown HO7.out (grown_drewN W7 m6 none)) (grown_setCell _ b 1 _) hb8 (by decide)⟩)
  clear hb8 HB7 HO7 HK7 HNW HR7
  refine ⟨(W7.drewN m6).setCell ⟨b, 1, none⟩ (.slice a3 (R.length + 1) c3), by go_simp, ?_⟩
  clear b7 f7
  generalize (W7.drewN m6).setCell ⟨b, 1, none⟩ (.slice a3 (R.length + 1) c3) = W9 at *
  go_wp2_with (go_at_call 19; refine (dnext_any HX.out.1).mono ?_; rintro e w' ⟨rfl, m9, rfl⟩)
  go_ret
  exact ⟨ret_int (by simp; omega), _, _, HX.out.1.grown (grown_drewN W9 m9 none), ⟨keeps_then HX.out.2.1.keeps (Keeps.of_none (F := MF b (.slice va R.length vc)) (grown_drewN W9 m9 none)) (fun k _ e => e), HX.out.2.1.new⟩, own_grown HX.out.2.2 (grown_drewN W9 m9 none)⟩
set_option maxHeartbeats 4000000 in
theorem dtrim_any {w : World} {B b : Nat} {vl : Value} {R : List RV} {s : Nat} (h : IsD w B b vl R s) (hBw : B ≤ w.heap.size) (t0 : Int) :
    Calls Try.prog 13 #[.pointer (some ⟨b, 0, none⟩), .int .i64 t0] w fun e w' => e = .returned (.int .i64 ((s + goneM ⟨s, R.map (·.1)⟩ t0 : Nat) : Int)) ∧ ∃ vl', IsD w' B b vl' (R.drop (goneM ⟨s, R.map (·.1)⟩ t0)) (s + goneM ⟨s, R.map (·.1)⟩ t0) ∧ MP w w' b vl vl' := by
  have hgone : goneM ⟨s, R.map (·.1)⟩ t0 = min (t0.toNat - s) R.length := by simp [goneM]
  rw [hgone]
  clear hgone
  obtain ⟨g, hg⟩ : ∃ g, g = min (t0.toNat - s) R.length := ⟨_, rfl⟩
  rw [← hg]
  have hgn : g ≤ R.length := by omega
  have hfit := h.fit
  obtain ⟨n, hn⟩ : ∃ n, n = s + R.length := ⟨_, rfl⟩
  have hmin : min (max t0 (s : Int)) (n : Int) = ((s + g : Nat) : Int) := by omega
  have hwr : IntKind.i64.wrap (((s + g : Nat) : Int) - s) = g := by rw [wrap_in (by omega)]; omega
  have HN := hid_mk (And.intro hn (And.intro hg (And.intro hBw hfit)))
  obtain ⟨va, vc, rfl⟩ := h.row.len
  have HM := hid_mk h
  clear h hn hg hBw hfit
  obtain ⟨sg, hsg⟩ : ∃ sg, sg = s + g := ⟨_, rfl⟩
  rw [← hsg] at hmin hwr ⊢
  have HSG := hid_mk hsg
  clear hsg
  go_enter Try.func13, Try.ntmps13
  go_upto_region 1 with fail
  refine wp_region_mix [(0, true), (1, true), (2, true), (3, true), (4, true), (5, true), (6, true), (7, true), (8, true), (9, true)] (at0 w (fun W => IsD W B b (.slice va R.length vc) R s)) (by kernel_rfl) (by kernel_rfl) rfl (by kernel_rfl) (shut_at0 (fun m => HM.out.grown (grown_drewN _ m none))) ⟨1, rfl⟩ ?_
  have HC := hid_mk (fun (W : World) (hW : IsD W B b (.slice va R.length vc) R s) => hW.cells)
  repeat (refine mix_rd1 rfl rfl (fun K hK => ?_); apply Exists.intro; refine ⟨fun W hW => ?_, ?_⟩; (obtain ⟨x0, x1, xf⟩ := HC.out W hW; go_simp; rfl); (go_simp; refine hK _ _ ?_; clear hK K))
  refine mix_rdcall rfl rfl 19 #[.pointer (some ⟨b, 0, none⟩)] (.int .i64 n) (fun W => by go_simp) (fun W hW => by have := dnext_any hW; rwa [← HN.out.1] at this) ?_
  go_simp
  repeat (refine mix_rd1 rfl rfl (fun K hK => ?_); apply Exists.intro; refine ⟨fun W hW => ?_, ?_⟩; (obtain ⟨x0, x1, xf⟩ := HC.out W hW; go_simp; rfl); (go_simp; refine hK _ _ ?_; clear hK K))
  refine mix_nil ?_
  rintro W ⟨m1, rfl⟩
  clear HC
  have H1 := hid_mk (And.intro (HM.out.grown (grown_drewN w m1 none)) (grown_drewN w m1 none))
  generalize w.drewN m1 = w1 at *
  go_upto_region 2 with fail
  obtain ⟨a2, c2, hsl, hrec⟩ := own_drop H1.out.1.row (by have := HN.out.2.2.2; omega) hgn
  refine wp_region_mixL [(0, true), (2, true), (3, true), (4, true), (5, true), (6, true), (7, true), (8, true), (9, true), (10, true), (11, true), (12, true), (1, false), (13, false), (14, true), (15, true)] 16 (at0 w1 (fun W => Blk W b #[.int .i64 s, .slice va R.length vc] 28)) (by kernel_rfl) (by kernel_rfl) rfl (by kernel_rfl) rfl (by kernel_rfl) (shut_at0 (fun m => H1.out.1.blk.kept (grown_drewN _ m none) (by simp))) ⟨1, rfl⟩ ?_
  have HC := hid_mk (fun (W : World) (hW : Blk W b #[.int .i64 s, .slice va R.length vc] 28) => show W.cell? ⟨b, 0, none⟩ = some (.int .i64 s) ∧ W.cell? ⟨b, 1, none⟩ = some (.slice va R.length vc) ∧ ∀ i, W.frozen? ⟨b, i, none⟩ = false from ⟨hW.cell 0, hW.cell 1, hW.frozen⟩)
  repeat (refine mix_rd1 rfl rfl (fun K hK => ?_); apply Exists.intro; refine ⟨fun W hW => ?_, ?_⟩; (obtain ⟨x0, x1, xf⟩ := HC.out W hW; go_simp; rfl); (go_simp; refine hK _ _ ?_; clear hK K))
  have HREC := hid_mk hrec
  clear hsl hrec
  refine mix_do rfl rfl ?_
  rintro W0 ⟨m2, rfl⟩
  refine ⟨.slice (some ⟨w1.heap.size, 0, none⟩) 0 0, (w1.drewN m2).alloc (.cells #[] 30), by go_simp, ?_⟩
  have HE := hid_mk (ownR_empty (w1.drewN m2))
  have G2 := hid_mk (grown_trans (grown_drewN w1 m2 none) (World.grownBy_alloc (w1.drewN m2) (.cells #[] 30) none))
  refine ⟨at0 ((w1.drewN m2).alloc (.cells #[] 30)) (fun W => Blk W b #[.int .i64 s, .slice va R.length vc] 28), ⟨0, rfl⟩, shut_at0 (fun m => (H1.out.1.blk.kept G2.out (by simp)).kept (grown_drewN _ m none) (by simp)), fun _ h => h, ?_⟩
  go_simp
  rw [show (w1.drewN m2).heap.size = w1.heap.size from rfl] at HE
  generalize (w1.drewN m2).alloc (.cells #[] 30) = W2 at *
  refine mix_do rfl rfl ?_
  rintro W0 ⟨m3, rfl⟩
  have g2d := grown_trans G2.out (grown_drewN W2 m3 none)
  have hdl : (R.drop g).length = R.length - g := by rw [List.length_drop]
  have hr2 := HREC.out.kept g2d
  rw [← hdl] at hr2
  obtain ⟨a3, c3, W7, hr3, ho3, hg3⟩ := run_copyR (owns_kept HE.out (grown_drewN W2 m3 none) (fun _ _ _ => by simp)) g2d.size hr2 (by rw [hdl]; have := HN.out.2.2.2; omega) 26
  rw [hdl] at hr3 ho3
  have G7 := hid_mk (show w1.grownBy W7 none from grown_new g2d hg3 (Nat.le_refl _))
  have HO7 := hid_mk ho3
  refine ⟨_, _, exec_app (s := .tmp 15) (y := .tmp 26) rfl rfl rfl hr3, at0 W7 (fun W => Blk W b #[.int .i64 s, .slice va R.length vc] 28), ⟨0, rfl⟩, shut_at0 (fun m => (H1.out.1.blk.kept G7.out (by simp)).kept (grown_drewN _ m none) (by simp)), fun _ h => h, ?_⟩
  clear g2d hr2 hr3 ho3 hg3 HE G2
  go_simp
  repeat (refine mix_rd1 rfl rfl (fun K hK => ?_); apply Exists.intro; refine ⟨fun W hW => ?_, ?_⟩; (obtain ⟨x0, x1, xf⟩ := HC.out W hW; go_simp; rfl); (go_simp; refine hK _ _ ?_; clear hK K))
  refine mix_nil ?_
  rintro W ⟨m6, rfl⟩
  have hb8 := (H1.out.1.blk.kept G7.out (by simp)).kept (grown_drewN W7 m6 none) (by simp)
  have b7 : (W7.drewN m6).cell? ⟨b, 1, none⟩ = some (.slice va R.length vc) := hb8.cell 1
  have b8 : (W7.drewN m6).cell? ⟨b, 0, none⟩ = some (.int .i64 s) := hb8.cell 0
  have f7 : ∀ i, (W7.drewN m6).frozen? ⟨b, i, none⟩ = false := hb8.frozen
  have HX := hid_mk (show IsD (((W7.drewN m6).setCell ⟨b, 1, none⟩ (.slice a3 (R.length - g) c3)).setCell ⟨b, 0, none⟩ (.int .i64 sg)) B b (.slice a3 (R.length - g) c3) (R.drop g) sg ∧ MP w (((W7.drewN m6).setCell ⟨b, 1, none⟩ (.slice a3 (R.length - g) c3)).setCell ⟨b, 0, none⟩ (.int .i64 sg)) b (.slice va R.length vc) (.slice a3 (R.length - g) c3) from by
    have hg9 : w1.grownBy (W7.drewN m6) none := grown_trans G7.out (grown_drewN W7 m6 none)
    have hgs := grown_trans (grown_setCell (W7.drewN m6) b 1 (.slice a3 (R.length - g) c3)) (grown_setCell _ b 0 (.int .i64 sg))
    have hrow : OwnRec (W7.drewN m6) B (.slice a3 (R.length - g) c3) (R.drop g) := ⟨by
      rw [hdl]
      exact owns_low (owns_kept HO7.out (grown_drewN W7 m6 none) (fun _ _ _ => by simp)) (Nat.le_trans HN.out.2.2.1 H1.out.2.size), fun p hp => own_grown (H1.out.1.row.2 p (List.mem_of_mem_drop hp)) hg9⟩
    refine ⟨⟨(hb8.set 1 _).set 0 _, hrow.but hgs hb8 (by decide) (by decide), by rw [hdl]; have := HN.out.2.2.2; have := HSG.out; omega⟩, keeps_set (keeps_set (Keeps.of_none (F := MF b (.slice va R.length vc)) (grown_trans H1.out.2 hg9)) (.inl rfl) _ _) (.inl rfl) _ _, fun k e => ?_⟩
    rcases e with e | e
    · exact .inl (.inl e)
    · exact .inr (Nat.le_trans H1.out.2.size (owns_lt HO7.out e).1))
  clear hb8
  refine ⟨(W7.drewN m6).setCell ⟨b, 1, none⟩ (.slice a3 (R.length - g) c3), by go_simp, ?_⟩
  go_wp2
  go_ret
  exact ⟨rfl, _, HX.out⟩
end Go.Proofs.Ythbfjpaimnhpgaa
