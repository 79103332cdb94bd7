/- ClientAll: without an answer each server is asked within patience times as many ticks as there are servers. -/
import Derived.Test.YtgebhomiehadmaaCcV
namespace Go.Proofs.Ytgebhomiehadmaa
open Go.RowKit Go.Maps
set_option linter.unusedVariables false
set_option linter.unusedSimpArgs false
set_option maxRecDepth 100000

theorem md9_get (z : Int) : ∃ A : Nat, wrap64 (1 + (wrap64 (z.tmod 9 + 9)).tmod 9) = A ∧ 1 ≤ A ∧ A ≤ 9 := by
  obtain ⟨M, h1, h2⟩ := md_get z 9 (by omega) (by omega)
  exact ⟨1 + M, by rw [h1]; unfold wrap64; omega, by omega, by omega⟩
/-- A client that nobody answers, behind so many ticks. -/
structure AlP (A : Nat) (l : List Int) (t : Nat) (g : Cli) : Prop where
  st : g.st = 1
  pa : g.pa = A
  sv : g.sv = l
  pl : g.pl = (t / A) % l.length
  ps : g.ps = ((t % A : Nat) : Int)
theorem alP_start (A : Nat) (l : List Int) : AlP A l 0 (doG (newC 5 A l) ⟨1, 0, 0, []⟩) := by
  have e : doG (newC 5 A l) ⟨1, 0, 0, []⟩ = begG (newC 5 A l) ⟨1, 0, 0, []⟩ := rfl
  rw [e]
  exact ⟨rfl, rfl, rfl, by rw [Nat.zero_div, Nat.zero_mod]; rfl, by rw [Nat.zero_mod]; rfl⟩
def sel (l : List Int) (q : Nat) : Int := l.getD (q % l.length) 0
theorem step_div {A t : Nat} (hA : 1 ≤ A) : (t % A + 1 = A ∧ (t + 1) / A = t / A + 1 ∧ (t + 1) % A = 0) ∨ (t % A + 1 < A ∧ (t + 1) / A = t / A ∧ (t + 1) % A = t % A + 1) := by
  have h1 := Nat.div_add_mod t A
  have h2 := Nat.mod_lt t hA
  generalize t / A = q at *
  generalize t % A = r at *
  subst h1
  by_cases h : r + 1 = A
  · left
    have e : A * q + r + 1 = A * (q + 1) := by rw [Nat.mul_add, Nat.mul_one]; omega
    rw [e]
    exact ⟨h, Nat.mul_div_cancel_left _ hA, Nat.mul_mod_right _ _⟩
  · right
    have e : r + 1 < A := by omega
    rw [Nat.add_assoc]
    exact ⟨e, by rw [Nat.mul_add_div hA, Nat.div_eq_of_lt e]; omega, by rw [Nat.mul_add_mod, Nat.mod_eq_of_lt e]⟩
theorem AlP.tick {A : Nat} {l : List Int} {t : Nat} {g : Cli} (h : AlP A l t g) (hA : 1 ≤ A) : AlP A l (t + 1) (tickG g) ∧ (tickG g).out.map Cal.to = g.out.map Cal.to ++ (if (t + 1) / A = t / A then [] else [sel l ((t + 1) / A)]) := by
  have hs := step_div (t := t) hA
  unfold tickG
  rw [if_pos h.st, h.pa, h.ps]
  rcases hs with ⟨h1, h2, h3⟩ | ⟨h1, h2, h3⟩
  · rw [if_pos (by omega)]
    have hp : nextP g = (t / A + 1) % l.length := by
      unfold nextP
      rw [h.pl, h.sv, Nat.mod_add_mod]
    rw [if_neg (by omega)]
    refine ⟨⟨h.st, rfl, h.sv, by rw [h2]; exact hp, by rw [h3]; rfl⟩, ?_⟩
    show (g.out ++ [_]).map Cal.to = _
    rw [List.map_append]
    congr 1
    show [g.sv.getD (nextP g) 0] = _
    rw [hp, h.sv, h2]
    rfl
  · rw [if_neg (by omega), if_pos h2]
    exact ⟨⟨h.st, rfl, h.sv, by rw [h2]; exact h.pl, by rw [h3]; show ((t % A : Nat) : Int) + 1 = _; omega⟩, by simp⟩
theorem AlP.calls {A : Nat} {l : List Int} {t : Nat} {g : Cli} (h : AlP A l t g) : AlP A l t (callsG g) := ⟨h.st, h.pa, h.sv, h.pl, h.ps⟩
/-- Who is asked. -/
def upS (l : List Int) (q : Nat) : Nat → List Int
  | 0 => []
  | c + 1 => sel l (q + c + 1) :: upS l q c
theorem upS_len (l : List Int) (q : Nat) : ∀ c, (upS l q c).length = c
  | 0 => rfl
  | c + 1 => by show (upS l q c).length + 1 = c + 1; rw [upS_len l q c]
theorem mem_upS {l : List Int} {q : Nat} {x : Int} : ∀ {c : Nat}, x ∈ upS l q c → ∃ j, j < c ∧ x = sel l (q + j + 1)
  | 0, h => by cases h
  | c + 1, h => by
    unfold upS at h
    rcases List.mem_cons.1 h with h | h
    · exact ⟨c, by omega, h⟩
    · obtain ⟨j, hj, e⟩ := mem_upS h
      exact ⟨j, by omega, e⟩
theorem mod_ne {a b n : Nat} (h : a < b) (h2 : b - a < n) : b % n ≠ a % n := fun e => by
  have := Nat.sub_mod_eq_zero_of_mod_eq e
  rw [Nat.mod_eq_of_lt h2] at this
  omega
theorem upS_add {l : List Int} (hd : Rise l) (q c : Nat) (hc : c < l.length) : addK (upS l q c) (sel l (q + c + 1)) = upS l q (c + 1) := by
  unfold addK
  rw [if_neg (fun h => by
    obtain ⟨j, hj, e⟩ := mem_upS h
    have h1 := Nat.mod_lt (q + c + 1) (show 0 < l.length by omega)
    have h2 := Nat.mod_lt (q + j + 1) (show 0 < l.length by omega)
    have hne := mod_ne (n := l.length) (show q + j + 1 < q + c + 1 by omega) (by omega)
    unfold sel at e
    rw [List.getD_eq_getElem?_getD, List.getD_eq_getElem?_getD, List.getElem?_eq_getElem h1, List.getElem?_eq_getElem h2] at e
    have e2 : l[(q + c + 1) % l.length] = l[(q + j + 1) % l.length] := e
    rcases Nat.lt_or_gt_of_ne hne with h3 | h3
    · have := rise_at hd h3 h2; omega
    · have := rise_at hd h3 h1; omega)]
  rfl
/-- The keys behind so many ticks, and one tick on. -/
theorem keys_tick {l : List Int} (hd : Rise l) {A M j : Nat} (hA : 1 ≤ A) (hj : j < A * l.length) : (if (M + j + 1) / A = (M + j) / A then ([] : List Int) else [sel l ((M + j + 1) / A)]).foldl addK (upS l (M / A) ((M + j) / A - M / A)) = upS l (M / A) ((M + j + 1) / A - M / A) := by
  have hs := step_div (t := M + j) hA
  have hle : M / A ≤ (M + j) / A := Nat.div_le_div_right (by omega)
  rcases hs with ⟨h1, h2, h3⟩ | ⟨h1, h2, h3⟩
  · rw [if_neg (by omega), h2]
    have hlt : (M + j) / A - M / A < l.length := by
      have e1 : (M + j + 1) / A ≤ (M + A * l.length) / A := Nat.div_le_div_right (by omega)
      rw [Nat.add_mul_div_left _ _ hA] at e1
      omega
    show addK _ _ = _
    have e : (M + j) / A + 1 = M / A + ((M + j) / A - M / A) + 1 := by omega
    rw [e, upS_add hd _ _ hlt]
    congr 1
    omega
  · rw [if_pos h2, h2]
    rfl
theorem keys_end (l : List Int) {A M : Nat} (hA : 1 ≤ A) : (M + A * l.length) / A - M / A = l.length := by
  rw [Nat.add_mul_div_left _ _ hA]; omega
theorem fold_next {ts : List Int} {K : List Int} {k : Nat} (hk : k < ts.length) : (ts.take (k + 1)).foldl addK K = addK ((ts.take k).foldl addK K) ts[k] := by
  rw [← List.take_append_getElem hk, List.foldl_append]
  rfl
set_option maxHeartbeats 8000000 in
theorem clientAll_walk (v : Value) (l : List Int) (pt be : Int) (w : World) (hl : IntsR w v l) (hl2 : l.length ≤ 17592186044416) (hp : -9223372036854775808 ≤ pt ∧ pt ≤ 9223372036854775807) (hb : -9223372036854775808 ≤ be ∧ be ≤ 9223372036854775807) :
    Calls Try.prog 6 #[v, .int .i64 pt, .int .i64 be] w fun e w' => e = .returned (.bool true) ∧ w.grownBy w' none := by
  clear hp hb
  have HL := hid_mk (And.intro hl hl2)
  obtain ⟨la, lc, rfl⟩ := hl.len
  clear hl hl2
  obtain ⟨A, hA, hA0, hA1⟩ := md9_get pt
  obtain ⟨M, hM, hM1⟩ := md_get be 50 (by omega) (by omega)
  have HA := hid_mk (And.intro hA (And.intro hA0 hA1))
  have HM := hid_mk (And.intro hM hM1)
  clear hA hA0 hA1 hM hM1
  go_enter Try.func6, Try.ntmps6
  go_wp2_with fail
  rw [HA.out.1]
  refine (m_new (grown_refl w none) 5 A _ l HL.out.1 HL.out.2).mono ?_
  rintro e w1 (⟨hf, rfl, hg⟩ | ⟨ht, b, vs, rfl, h1⟩)
  · have HG := hid_mk hg
    have HK := hid_mk (knows_any w1)
    clear hg
    go_wp2_with (first | (go_at_call 11; refine (num_any _ _).mono ?_; rintro e w' ⟨rfl, hw⟩; rw [hw]; clear hw) | (go_at_call 12; refine HK.out.mono ?_; rintro e w2 ⟨rfl, hg⟩; have HG2 := hid_mk hg; clear hg))
    go_ret
    exact ⟨rfl, grown_trans HG.out HG2.out⟩
  · have HT := hid_mk ht
    have H1 := hid_mk h1
    clear ht h1
    go_wp2_with (go_at_call 11; refine (num_any _ _).mono ?_; rintro e w' ⟨rfl, hw⟩; rw [hw]; clear hw)
    refine (do_any (o := ⟨1, 0, 0, []⟩) (v := .slice none 0 0) H1.out.1 ((fit_new 5 A l).le (by omega)) (Byt.nil _) (by simp)).mono ?_
    rintro e w2 ⟨rfl, V2, h2⟩
    rw [show doE (newC 5 A l) ⟨1, 0, 0, []⟩ = 0 from rfl]
    obtain ⟨g0, hg0⟩ : ∃ g, g = doG (newC 5 A l) ⟨1, 0, 0, []⟩ := ⟨_, rfl⟩
    have H2 := hid_mk (show Mine w w2 b V2 g0 ∧ AlP A l 0 g0 ∧ Fit g0 1001 from by
      rw [hg0]
      exact ⟨H1.out.cpv h2, alP_start A l, fit_do (fit_new 5 A l) _⟩)
    clear h2 H1 hg0
    go_wp2_with (go_at_call 11; refine (num_any _ _).mono ?_; rintro e w' ⟨rfl, hw⟩; rw [hw]; clear hw)
    go_loopg [9] M (fun gg iv W => ∃ (k : Nat) (V : CV) (g : Cli), k ≤ M ∧ gg = M - k ∧ iv = .int .i64 k ∧ Hid (Mine w W b V g ∧ AlP A l k g ∧ Fit g (1001 + k)))
    case atStart => exact ⟨0, V2, g0, Nat.zero_le _, rfl, rfl, hid_mk ⟨H2.out.1, H2.out.2.1, H2.out.2.2.le (by omega)⟩⟩
    case round =>
      clear H2
      obtain ⟨k, V, g, hk, hgk, rfl, H⟩ := hrel
      rename World => W
      by_cases hlt : k < M
      · have hlt' : (k : Int) < M := by omega
        have hM := HM.out.1
        go_wp2_with fail
        refine (tick_any H.out.1.1 (H.out.2.2.le (by have := HM.out.2; omega))).mono ?_
        rintro e W2 ⟨rfl, V2, h2⟩
        have H6 := hid_mk (And.intro (H.out.1.cpv h2) (And.intro (H.out.2.1.tick HA.out.2.1).1 (fit_tick H.out.2.2)))
        clear h2 hM
        have hM2 := HM.out.2
        go_wp2_with fail
        go_roundg (M - (k + 1))
        case measure => omega
        case rel => exact ⟨k + 1, V2, tickG g, by omega, rfl, by go_num, hid_mk ⟨H6.out.1, H6.out.2.1, H6.out.2.2.le (by omega)⟩⟩
      · have hlt' : ¬ (k : Int) < M := by omega
        have eM : M = k := by omega
        subst eM
        have hM := HM.out.1
        go_wp2_with fail
        clear hM hlt hlt'
        refine (calls_any H.out.1.1).mono ?_
        rintro e w3 ⟨rfl, h3, _, _, _⟩
        have H3 := hid_mk (And.intro (H.out.1.cpv h3) (And.intro H.out.2.1.calls (fit_calls H.out.2.2)))
        clear h3 H
        have hmm := run_makeMap60
        go_wp2_with fail
        clear hmm
        have gA := World.grownBy_alloc w3 (.map #[] 0) none
        obtain ⟨P, hP⟩ : ∃ P, P = A * l.length := ⟨_, rfl⟩
        have hrt : Rt l := by
          have h9 := HT.out
          unfold newB at h9
          simp only [Bool.and_eq_true] at h9
          exact rtB_iff.1 h9.2.1
        have HP := hid_mk (show P = A * l.length ∧ IntKind.i64.wrap ((A : Int) * l.length) = P ∧ P ≤ 63 ∧ Rt l from by
          have h7 : A * l.length ≤ 9 * 7 := Nat.mul_le_mul HA.out.2.2 hrt.2.1
          have h8 : ((A * l.length : Nat) : Int) = (A : Int) * l.length := by simp
          exact ⟨hP, by rw [wrap_in (by omega), hP, h8], by omega, hrt⟩)
        have H7 := hid_mk (And.intro (H3.out.1.kept gA) (And.intro H3.out.2.1 (And.intro H3.out.2.2 (And.intro (map_new w3) (show w.heap.size ≤ w3.heap.size from H3.out.1.2.size)))))
        clear gA H3 hP hrt
        generalize (w3.alloc (.map #[] 0)) = w7 at *
        generalize w3.heap.size = q7 at *
        go_loopg [11, 12, 13] P (fun gg iv xv yv W => ∃ (j nn : Nat) (V : CV) (g : Cli), j ≤ P ∧ gg = P - j ∧ iv = .int .i64 j ∧ Hid (nn ≤ j ∧ Mine w W b V g ∧ V.vc = .slice none 0 0 ∧ g.out = [] ∧ AlP A l (M + j) g ∧ Fit g (1001 + ((M + j : Nat) : Int)) ∧ MapI W q7 nn (upS l (M / A) ((M + j) / A - M / A))))
        case atStart => exact ⟨0, 0, _, _, Nat.zero_le _, rfl, rfl, hid_mk ⟨Nat.le_refl _, H7.out.1, rfl, rfl, H7.out.2.1, H7.out.2.2.1.le (by omega), by rw [Nat.add_zero, Nat.sub_self]; exact H7.out.2.2.2.1⟩⟩
        case round =>
          have HQ := hid_mk H7.out.2.2.2.2
          clear H7
          obtain ⟨j, nn, V, g, hj, hgj, rfl, H⟩ := hrel
          rename World => W
          have hmul := HP.out.2.1
          by_cases hlt : j < P
          · have hlt' : (j : Int) < P := by omega
            go_wp2_with fail
            refine (tick_any H.out.2.1.1 (H.out.2.2.2.2.2.1.le (by have := HM.out.2; have := HP.out.2.2.1; omega))).mono ?_
            rintro e W2 ⟨rfl, V2, h2⟩
            have htk := H.out.2.2.2.2.1.tick HA.out.2.1
            have hq : b ≠ q7 := fun e => by
              obtain ⟨D, hD⟩ := H.out.2.2.2.2.2.2
              exact map_blk hD.own (by have := H.out.2.1.1.blk; unfold Blk at this; rw [e] at this; exact this) rfl
            rw [H.out.2.2.2.1] at htk
            have H6 := hid_mk (show Mine w W2 b V2 (tickG g) ∧ AlP A l (M + (j + 1)) (tickG g) ∧ (tickG g).out.map Cal.to = (if (M + j + 1) / A = (M + j) / A then [] else [sel l ((M + j + 1) / A)]) ∧ Fit (tickG g) (1001 + ((M + (j + 1) : Nat) : Int)) ∧ MapI W2 q7 nn (upS l (M / A) ((M + j) / A - M / A)) ∧ b ≠ q7 ∧ nn ≤ j from
              ⟨H.out.2.1.cpv h2, htk.1, by simpa using htk.2, (fit_tick H.out.2.2.2.2.2.1).le (by omega), H.out.2.2.2.2.2.2.client H.out.2.1.1 h2, hq, H.out.1⟩)
            clear h2 htk hq H
            generalize tickG g = g2 at *
            go_wp2_with fail
            refine (calls_any H6.out.1.1).mono ?_
            rintro e w8 ⟨rfl, h8, hrow, hbt, hg8⟩
            obtain ⟨K, hK⟩ : ∃ K, K = upS l (M / A) ((M + j) / A - M / A) := ⟨_, rfl⟩
            obtain ⟨T, hT⟩ : ∃ T, T = (V2.L.map (·.1)).map Cal.to := ⟨_, rfl⟩
            have hTe : T = (if (M + j + 1) / A = (M + j) / A then [] else [sel l ((M + j + 1) / A)]) := by
              rw [hT, H6.out.1.1.outs]; exact H6.out.2.2.1
            have hKT : T.foldl addK K = upS l (M / A) ((M + j + 1) / A - M / A) := by
              rw [hTe, hK]
              exact keys_tick HP.out.2.2.2.2.2.2 HA.out.2.1 (by have := HP.out.1; omega)
            have hTl : T.length ≤ 1 := by rw [hTe]; split <;> simp
            have hTL : V2.L.length = T.length := by rw [hT]; simp
            have hTr : ∀ x ∈ T, 0 ≤ x ∧ x < 16 := fun x hx => by
              rw [hTe] at hx
              split at hx
              · cases hx
              · have hx2 := List.mem_singleton.1 hx
                have hsl := Nat.mod_lt ((M + j + 1) / A) (show 0 < l.length from HP.out.2.2.2.1)
                unfold sel at hx2
                rw [List.getD_eq_getElem?_getD, List.getElem?_eq_getElem hsl] at hx2
                rw [hx2]
                exact HP.out.2.2.2.2.2.1 _ (List.getElem_mem hsl)
            have H8 := hid_mk (show Mine w w8 b { V2 with vc := .slice none 0 0, L := [] } (callsG g2) ∧ AlP A l (M + (j + 1)) (callsG g2) ∧ Fit (callsG g2) (1001 + ((M + (j + 1) : Nat) : Int)) ∧ MapI w8 q7 nn K ∧ OwnK 64 w8 w.heap.size V2.vc V2.L ∧ nn ≤ j from
              ⟨H6.out.1.cpv h8, H6.out.2.1.calls, fit_calls H6.out.2.2.2.1, by rw [hK]; exact H6.out.2.2.2.2.1.kept hg8 (by simpa using H6.out.2.2.2.2.2.1.symm), hrow, H6.out.2.2.2.2.2.2⟩)
            have HT2 := hid_mk (show T.foldl addK K = upS l (M / A) ((M + (j + 1)) / A - M / A) ∧ T.length ≤ 1 ∧ V2.L.length = T.length ∧ (∀ x ∈ T, 0 ≤ x ∧ x < 16) ∧ T = (V2.L.map (·.1)).map Cal.to from ⟨hKT, hTl, hTL, hTr, hT⟩)
            obtain ⟨xa, xc, hvc⟩ := hrow.len
            have HVC := hid_mk hvc
            rw [hvc, hTL]
            clear h8 hrow hbt hg8 hK hT hTe hKT hTl hTr hvc H6 hTL
            go_wp2_with fail
            go_loopg [13] T.length (fun gg iv W => ∃ (k : Nat) (n2 : Nat), k ≤ T.length ∧ gg = T.length - k ∧ iv = .int .i64 k ∧ Hid (n2 ≤ nn + k ∧ Mine w W b { V2 with vc := .slice none 0 0, L := [] } (callsG g2) ∧ MapI W q7 n2 ((T.take k).foldl addK K) ∧ OwnK 64 W w.heap.size V2.vc V2.L))
            case atStart => exact ⟨0, nn, Nat.zero_le _, rfl, rfl, hid_mk ⟨Nat.le_refl _, H8.out.1, H8.out.2.2.2.1, H8.out.2.2.2.2.1⟩⟩
            case round =>
              obtain ⟨k, n2, hk, hgk, rfl, H⟩ := hrel
              rename World => W3
              by_cases hlt3 : k < T.length
              · have hlt4 : (k : Int) < T.length := by omega
                have hkL : k < V2.L.length := by rw [HT2.out.2.2.1]; exact hlt3
                obtain ⟨gb, cap, hv, hcell⟩ := H.out.2.2.2.get k hkL
                rw [HVC.out, HT2.out.2.2.1] at hv
                injection hv with hv1 hv2 hv3
                clear hv2 hv3
                subst hv1
                obtain ⟨x, hx⟩ : ∃ x, x = T[k] := ⟨_, rfl⟩
                have hxe : V2.L[k].1.to = x := by
                  rw [hx]
                  simp [HT2.out.2.2.2.2]
                have hck : W3.cell? ⟨gb, k * 8, none⟩ = some (.int .i64 x) := by
                  rw [← hxe]
                  exact hcell 0 _ rfl
                obtain ⟨D, hD⟩ := H.out.2.2.1
                have HD := hid_mk hD
                have HX := hid_mk (And.intro hx (And.intro hlt3 (show 0 ≤ x ∧ x < 16 from by rw [hx]; exact HT2.out.2.2.2.1 _ (List.getElem_mem hlt3))))
                have hT1 := HT2.out.2.1
                clear hcell hD hx hxe
                go_wp2_with (at_mapUpdate; refine wpList_mapUpdate_own _ rfl _ _ _ 60 rfl 3 4 key3 Try.underlying60 _ q7 n2 D rfl HD.out.own (by have := H.out.1; have := H8.out.2.2.2.2.2; have := HP.out.2.2.1; unfold maxLen; omega) _ _ (.int .i64 x) rfl rfl (keyOf_int_mk Try.underlying3 (key_wf (by have := HX.out; omega) (by have := HX.out; omega))) _ [] (plainElem_bool Try.underlying4 true) ?_; intro w9 hown9 hgrow9)
                go_roundg (T.length - (k + 1))
                case measure => omega
                case rel => exact ⟨k + 1, n2 + 1, by omega, by omega, by go_num, hid_mk ⟨by have := H.out.1; omega, H.out.2.1.map ⟨D, HD.out⟩ HQ.out hgrow9, by rw [fold_next HX.out.2.1, ← HX.out.1]; exact HD.out.put hown9, owns_map H.out.2.2.2 ⟨D, HD.out⟩ hgrow9⟩⟩
              · have hlt4 : ¬ (k : Int) < T.length := by omega
                have eK : k = T.length := by omega
                subst eK
                have hPP := HP.out.2.2.1
                go_wp2_with fail
                go_roundg (P - (j + 1))
                case measure => omega
                case rel => exact ⟨j + 1, n2, _, _, by omega, rfl, by go_num, hid_mk ⟨by have := H.out.1; have := HT2.out.2.1; have := H8.out.2.2.2.2.2; omega, H.out.2.1, rfl, rfl, H8.out.2.1, H8.out.2.2.1, by
                  have h9 := H.out.2.2.1
                  rwa [List.take_length, HT2.out.1] at h9⟩⟩
          · have hlt' : ¬ (j : Int) < P := by omega
            obtain rfl : P = j := by omega
            have hll : ∀ ty, (Builtin.len_ #[60] ty #[.map (some q7)]).run Try.prog W = .ok (.int .i64 l.length) W := fun ty => by
              have := H.out.2.2.2.2.2.2.len ty
              rwa [HP.out.1, keys_end l HA.out.2.1, upS_len] at this
            have HK := hid_mk (knows_any W)
            go_wp2_with (go_at_call 12; refine HK.out.mono ?_; rintro e w2 ⟨rfl, hg⟩; have HG2 := hid_mk hg; clear hg)
            go_ret
            exact ⟨rfl, grown_trans H.out.2.1.2 HG2.out⟩
end Go.Proofs.Ytgebhomiehadmaa
