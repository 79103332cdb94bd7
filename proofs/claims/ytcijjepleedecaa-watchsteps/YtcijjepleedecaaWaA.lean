/- watch: orEmpty, above. -/
import Derived.Test.YtcijjepleedecaaWaP
namespace Go.Proofs.Ytcijjepleedecaa.W
open Go.RowKit Go.Maps
set_option linter.unusedVariables false
set_option linter.unusedSimpArgs false
set_option maxRecDepth 100000
attribute [local go_sem] Oper.semAt_some

/-- A world behind a view's box and an empty box for the answer. -/
structure TwoB (w w1 : World) (b t : Int) (lv : Value) : Prop where
  v : VB w1 w.heap.size b t lv
  r : VB w1 (w.heap.size + 1) 0 0 (.slice none 0 0)
  gr : w.grownBy w1 none
theorem TwoB.new (w : World) (b t : Int) (lv : Value) : TwoB w ((w.alloc (.cells #[.int .i64 b, .int .i64 t, lv] 26)).alloc (.cells #[.int .i64 0, .int .i64 0, .slice none 0 0] 26)) b t lv := by
  have h1 := VB.new w b t lv
  have h2 := VB.new (w.alloc (.cells #[.int .i64 b, .int .i64 t, lv] 26)) 0 0 (.slice none 0 0)
  rw [World.size_alloc] at h2
  exact ⟨h1.kept (World.grownBy_alloc _ _ none) (by simp), h2, grown_trans (World.grownBy_alloc _ _ none) (World.grownBy_alloc _ _ none)⟩

set_option maxHeartbeats 4000000 in
theorem orEmpty_any (b t : Int) (lv : Value) (es : List Ent) (w : World) (h : EntsR w lv es) (hlen : es.length ≤ 10000000000000) (hbb : I64 b) : Calls Try.prog 35 #[viewV b t lv] w fun e w' => e = .returned (viewV (whB b t es) (whT b t es) (whV b t es lv)) ∧ w.grownBy w' none := by
  obtain ⟨a, c, rfl⟩ := h.len
  have HE := hid_mk h
  clear h
  have HV : Hid (viewV b t (.slice a es.length c) = .agg #[.int .i64 b, .int .i64 t, .slice a es.length c]) := hid_mk rfl
  unfold viewV
  have HA := hid_mk (TwoB.new w b t (.slice a es.length c))
  go_enter Try.func35, Try.ntmps35
  go_upto_region 1 with fail
  generalize (w.alloc (.cells #[.int .i64 b, .int .i64 t, .slice a es.length c] 26)).alloc (.cells #[.int .i64 0, .int .i64 0, .slice none 0 0] 26) = w1 at *
  obtain ⟨v0, v1, v2⟩ := HA.out.v.cells
  go_wp2_with fail
  rw [← HV.out]
  refine (rightV_any b t _ es w1 (HE.out.kept HA.out.gr) hlen hbb).mono ?_
  rintro e w2 ⟨rfl, hg⟩
  obtain ⟨r, hr⟩ : ∃ r, r = w.heap.size + 1 := ⟨_, rfl⟩
  have HR := hid_mk (show VB w2 r 0 0 (.slice none 0 0) ∧ w.grownBy w2 none ∧ w.heap.size ≤ r from ⟨hr ▸ HA.out.r.kept hg (by simp), grown_trans HA.out.gr hg, by omega⟩)
  have HQ := hid_mk (HA.out.v.kept hg (by simp))
  rw [← hr]
  clear hg hr v0 v1 v2
  rcases Bool.eq_false_or_eq_true (rightV b t es) with hr2 | hr2
  · obtain ⟨e1, e2, e3⟩ := wh_yes hr2
    have H4 := hid_mk (And.intro e1 (And.intro e2 (And.intro e3 (whV_yes hr2 (.slice a es.length c)))))
    clear e1 e2 e3
    rw [hr2]
    obtain ⟨c0, c1, c2⟩ := HQ.out.cells
    obtain ⟨r0, r1, r2⟩ := HR.out.1.cells
    have z0 := HR.out.1.frozen (i := 0)
    have z1 := HR.out.1.frozen (i := 1)
    have z2 := HR.out.1.frozen (i := 2)
    have HP := hid_mk (HR.out.1.put b t (.slice a es.length c))
    go_wp2_with fail
    refine bodyPost_ret (ret_view rfl _ _ _ _ _ _ rfl HP.out.1) rfl ?_
    exact ⟨by rw [H4.out.1, H4.out.2.1, H4.out.2.2.2]; rfl, grown_new HR.out.2.1 HP.out.2 HR.out.2.2⟩
  · obtain ⟨e1, e2, e3⟩ := wh_no hr2
    have H4 := hid_mk (And.intro e1 (And.intro e2 (And.intro e3 (whV_no hr2 (.slice a es.length c)))))
    clear e1 e2 e3
    rw [hr2]
    obtain ⟨r0, r1, r2⟩ := HR.out.1.cells
    have z0 := HR.out.1.frozen (i := 0)
    have z1 := HR.out.1.frozen (i := 1)
    have z2 := HR.out.1.frozen (i := 2)
    have HP := hid_mk (HR.out.1.put 0 0 (.slice none 0 0))
    go_wp2_with fail
    refine bodyPost_ret (ret_view rfl _ _ _ _ _ _ rfl HP.out.1) rfl ?_
    exact ⟨by rw [H4.out.1, H4.out.2.1, H4.out.2.2.2]; rfl, grown_new HR.out.2.1 HP.out.2 HR.out.2.2⟩

set_option maxHeartbeats 4000000 in
theorem above_any (i b t : Int) (lv : Value) (es : List Ent) (w0 w : World) (h : EntsR w0 lv es) (hlen : es.length ≤ 4096) (hb : 0 ≤ b ∧ b ≤ i ∧ i ≤ 549755813888) :
    Calls Try.prog 45 #[.int .i64 i, viewV b t lv] w fun e w' => ∃ a c, e = .returned (.slice a (es.drop (i - b).toNat).length c) ∧ EntsR w0 (.slice a (es.drop (i - b).toNat).length c) (es.drop (i - b).toNat) ∧ w.grownBy w' none := by
  obtain ⟨a, c, rfl⟩ := h.len
  have HE := hid_mk h
  clear h
  unfold viewV
  have HA := hid_mk (And.intro (VB.new w b t (.slice a es.length c)) (World.grownBy_alloc w (.cells #[.int .i64 b, .int .i64 t, .slice a es.length c] 26) none))
  obtain ⟨P, hP⟩ : ∃ P, P = min (i - b).toNat es.length := ⟨_, rfl⟩
  obtain ⟨a2, c2, hsl, hrd⟩ := HE.out.l P (by omega)
  have hd : es.drop P = es.drop (i - b).toNat := by
    rw [hP]
    rcases Nat.le_total (i - b).toNat es.length with hle | hle
    · rw [Nat.min_eq_left hle]
    · rw [Nat.min_eq_right hle, List.drop_length, List.drop_eq_nil_of_le hle]
  rw [hd] at hrd
  have hl2 : (es.drop (i - b).toNat).length = es.length - P := by rw [← hd, List.length_drop]
  rw [hl2]
  generalize hn2 : es.length - P = n2 at *
  have HSL := hid_mk hrd
  clear hrd hd hl2
  go_enter Try.func45, Try.ntmps45
  go_upto_region 1 with fail
  generalize w.alloc (.cells #[.int .i64 b, .int .i64 t, .slice a es.length c] 26) = w1 at *
  obtain ⟨v0, v1, v2⟩ := HA.out.1.cells
  by_cases hle : i - b ≤ (es.length : Int)
  · rw [show (P : Int) = i - b by rw [hP]; omega] at hsl
    clear hP
    go_wp2_with fail
    go_ret
    exact ⟨a2, c2, rfl, HSL.out, HA.out.2⟩
  · have hn0 : n2 = 0 := by omega
    have hdn : es.drop (i - b).toNat = [] := List.drop_eq_nil_of_le (by omega)
    have H0 := hid_mk (And.intro hn0 hdn)
    have HP := hid_mk hP
    clear hP hn0 hdn hsl hn2
    go_wp2_with fail
    all_goals (go_ret; rw [H0.out.1, H0.out.2]; refine ⟨_, _, rfl, .inl ⟨rfl, _, _, rfl, ?_⟩, HA.out.2⟩)
    all_goals first
      | exact fun _ => rfl
      | (intro hm
         have ha : a = none := by cases a <;> simp_all
         subst ha
         have hcap : ∀ v, EntsR w0 v es → v = .slice none es.length c → c = 0 := by
           intro v hv e
           rcases hv with ⟨hnil, a', c', e', hn⟩ | ⟨b', off, c', e', _⟩
           · rw [e] at e'
             injection e' with q1 q2 q3
             rw [q3]; exact hn q1.symm
           · rw [e] at e'
             injection e' with q1 q2 q3
             cases q1
         rw [hcap _ HE.out rfl]; omega)
end Go.Proofs.Ytcijjepleedecaa.W
