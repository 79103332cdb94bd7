/- MachineOnce: the walk. -/
import Derived.Test.YtpncbehabfkhkaaMaP
namespace Go.Proofs.Ytpncbehabfkhkaa.W
open Go.RowKit Go.Maps Go.WideMaps Go.WideElems
set_option linter.unusedVariables false
set_option linter.unusedSimpArgs false
set_option maxRecDepth 100000

/-- Behind some sessions that were opened. -/
structure Op1 (m : Mach) (i : Nat) : Prop where
  sp : m.sp = 1048576
  st : m.st = 0
  ap : m.ap = i
  rs : m.rs.length = 0
  len : m.ss.length = i
  ses : ∀ j, 1 ≤ j → j ≤ i → ∃ s, sesAt m.ss j = some s ∧ s.q = 0
  used : ∀ s ∈ m.ss, 1 ≤ s.u ∧ s.n ≤ i
theorem Op1.step {m m' : Mach} {i f : Nat} (h : Op1 m i) (hi : i < 3) (h1 : m'.sp = m.sp) (h2 : m'.ap = i + 1) (h3 : m'.st = m.st) (h4 : m'.ss = (atM m (i + 1)).ss ++ [⟨i + 1, 0, 0, i + 1, f⟩]) (h5 : m'.rs.map Prod.snd = m.rs.map Prod.snd) : Op1 m' (i + 1) := by
  have ha : (atM m (i + 1)).ss = m.ss := at_all fun s hs => by have := (h.used s hs).1; rw [h.sp]; omega
  rw [ha] at h4
  refine ⟨h1.trans h.sp, h3.trans h.st, h2, ?_, ?_, fun j hj1 hj2 => ?_, fun s hs => ?_⟩
  · have := congrArg List.length h5
    simp only [List.length_map] at this
    rw [this, h.rs]
  · rw [h4]; simp [h.len]
  · by_cases e : j ≤ i
    · obtain ⟨s, hs, hq⟩ := h.ses j hj1 e
      exact ⟨s, by rw [h4]; exact sesAt_app hs, hq⟩
    · obtain rfl : j = i + 1 := by omega
      refine ⟨⟨i + 1, 0, 0, i + 1, f⟩, ?_, rfl⟩
      rw [h4]
      exact sesAt_end (s := ⟨i + 1, 0, 0, i + 1, f⟩) (fun t ht => by have := (h.used t ht).2; show t.n < i + 1; omega)
  · rw [h4] at hs
    rcases List.mem_append.1 hs with hs | hs
    · have := h.used s hs; exact ⟨this.1, by omega⟩
    · obtain rfl := List.mem_singleton.1 hs; exact ⟨by show 1 ≤ i + 1; omega, Nat.le_refl _⟩
theorem Op1.pur {m : Mach} (h : Op1 m 3) : Pur m (.map []) (fun _ => 0) 0 where
  sp := h.sp
  st := h.st
  ap := h.ap
  used := fun s hs => (h.used s hs).1
  ses := fun j h1 h3 => by
    obtain ⟨s, hs, hq⟩ := h.ses j h1 h3
    exact ⟨s, hs, hq, Nat.zero_le _, .inl rfl⟩
  no := fun j q _ _ _ _ => rfl
  tidy := tidy_empty
  size := by rw [h.rs]; rfl
theorem idx_mod (n : Int) (p : Int) (hp : 0 < p) : (-p < n.tmod p ∧ n.tmod p < p) ∧ 0 ≤ (n.tmod p + p).tmod p ∧ (n.tmod p + p).tmod p < p := by
  have h1 : -p < n.tmod p := by
    have := Int.lt_tmod_of_pos n hp
    omega
  have h3 := Int.tmod_lt_of_pos n hp
  have h2 : 0 ≤ n.tmod p + p := by omega
  rw [Int.tmod_eq_emod_of_nonneg h2]
  exact ⟨⟨h1, h3⟩, Int.emod_nonneg _ (by omega), Int.emod_lt_of_pos _ hp⟩
theorem zero3 (w : World) : (zeroValue 3).run Try.prog w = .ok (.int .i64 0) w := by kernel_rfl

theorem map71_keeps {w w' : World} {F : Nat → Prop} {bm n : Nat} {D : DataW Unit} (h : w.ownsMap Try.prog 71 (plainElem Try.prog 3) bm n D) (hk : Keeps F w w') (hn : ¬ F bm) : w'.ownsMap Try.prog 71 (plainElem Try.prog 3) bm n D := by
  obtain ⟨es, clock, hb, r⟩ := h
  exact ⟨es, clock, (hk.block bm (Array.getElem?_eq_some_iff.1 hb).1 hn).trans hb, r⟩
def setL (L : Nat → Nat) (j q : Nat) (k : Nat) : Nat := if k = j then q else L k
def lastV (L : Nat → Nat) : Array Value := #[.int .i64 0, .int .i64 (L 1), .int .i64 (L 2), .int .i64 (L 3)]
theorem last_at (L : Nat → Nat) (j : Nat) (h : 1 ≤ j ∧ j ≤ 3) : (lastV L)[j]? = some (.int .i64 (L j)) := by
  obtain ⟨h1, h3⟩ := h
  match j, h1, h3 with
  | 1, _, _ => rfl
  | 2, _, _ => rfl
  | 3, _, _ => rfl
theorem last_set (L : Nat → Nat) (j q : Nat) (h : 1 ≤ j ∧ j ≤ 3) : (lastV L).setIfInBounds j (.int .i64 q) = lastV (setL L j q) := by
  obtain ⟨h1, h3⟩ := h
  match j, h1, h3 with
  | 1, _, _ => rfl
  | 2, _, _ => rfl
  | 3, _, _ => rfl
/-- The law's state between rounds. -/
def OnI (w W : World) (b bn bl k : Nat) : Prop := ∃ (Z : Nat → Prop) (m : Mach) (D : DataW Unit) (L : Nat → Nat) (N : Nat), MS w W Z b m ∧ Pur m D L k ∧ W.ownsMap Try.prog 71 (plainElem Try.prog 3) bn N D ∧ N ≤ k ∧ ¬ Z bn ∧ w.heap.size ≤ bn ∧ Blk W bl (lastV L) 3 ∧ ¬ Z bl ∧ w.heap.size ≤ bl
/-- Where a round stands. -/
structure RS (w W : World) (Z : Nat → Prop) (b bn bl : Nat) (m : Mach) (D : DataW Unit) (L : Nat → Nat) (N : Nat) : Prop where
  ms : MS w W Z b m
  map : W.ownsMap Try.prog 71 (plainElem Try.prog 3) bn N D
  zn : ¬ Z bn
  lon : w.heap.size ≤ bn
  last : Blk W bl (lastV L) 3
  zl : ¬ Z bl
  lol : w.heap.size ≤ bl
theorem RS.kept {w W W' : World} {Z : Nat → Prop} {b bn bl N : Nat} {m : Mach} {D : DataW Unit} {L : Nat → Nat} (h : RS w W Z b bn bl m D L N) (hg : W.grownBy W' none) : RS w W' Z b bn bl m D L N :=
  ⟨h.ms.kept hg, h.map.kept hg (by simp), h.zn, h.lon, h.last.kept hg (by simp), h.zl, h.lol⟩
theorem RS.ap {w W W' : World} {Z : Nat → Prop} {b bn bl N : Nat} {m m' : Mach} {D : DataW Unit} {L : Nat → Nat} (h : RS w W Z b bn bl m D L N) (hm : MS w W' (Nx Z W W') b m') (hk : Keeps Z W W') : RS w W' (Nx Z W W') b bn bl m' D L N :=
  ⟨hm, map71_keeps h.map hk h.zn, nx_not h.zn h.map.lt, h.lon, h.last.keeps hk h.zl, nx_not h.zl h.last.lt, h.lol⟩
theorem map_ne71 {w : World} {b bm n : Nat} {cs : Array Value} {t : TypeId} {f : Nat × Nat} {D : DataW Unit} (h : w.heap[b]? = some (.cells cs t f)) (hm : w.ownsMap Try.prog 71 (plainElem Try.prog 3) bm n D) : b ≠ bm := by
  rintro rfl
  obtain ⟨es, clock, hb, _⟩ := hm
  rw [h] at hb
  cases hb
theorem RS.noted {w W W' : World} {Z : Nat → Prop} {b bn bl N N' : Nat} {m : Mach} {D D' : DataW Unit} {L : Nat → Nat} (h : RS w W Z b bn bl m D L N) (hg : W.grownBy W' (some bn)) (hd : W'.ownsMap Try.prog 71 (plainElem Try.prog 3) bn N' D') : RS w W' Z b bn bl m D' L N' :=
  ⟨h.ms.keeps (F := fun k => k = bn) (Keeps.one hg rfl) (fun k hk e => h.zn (e ▸ hk)) (fun k e => by subst e; exact h.lon), hd, h.zn, h.lon, h.last.kept hg (by simpa using map_ne71 h.last h.map), h.zl, h.lol⟩
theorem RS.lasted {w W : World} {Z : Nat → Prop} {b bn bl N : Nat} {m : Mach} {D : DataW Unit} {L : Nat → Nat} (h : RS w W Z b bn bl m D L N) (j q : Nat) (hj : 1 ≤ j ∧ j ≤ 3) : RS w (W.setCell ⟨bl, j, none⟩ (.int .i64 q)) Z b bn bl m D (setL L j q) N := by
  have hg := grown_setCell W bl j (.int .i64 q)
  refine ⟨h.ms.keeps (F := fun k => k = bl) (Keeps.one hg rfl) (fun k hk e => h.zl (e ▸ hk)) (fun k e => by subst e; exact h.lol), h.map.kept hg (by have := map_ne71 h.last h.map; simp; omega), h.zn, h.lon, ?_, h.zl, h.lol⟩
  rw [← last_set L j q hj]
  exact h.last.set j _
theorem plain3 (n : Nat) (h : n ≤ 1099511627776) : plainElem (H := Unit) Try.prog 3 (.int .i64 n) = some (.lit (.int .i64 n), []) := plainElem_int Try.underlying3 (wf_nat n h)

set_option maxHeartbeats 8000000 in
theorem machineOnce_walk (lv : Value) (n : Nat) (w : World) (hl : TriesIn w lv n) (hn : n ≤ 9223372036854775807) : Calls Try.prog 7 #[lv] w fun e w' => e = .returned (.bool true) ∧ w.grownBy w' none := by
  obtain ⟨⟨la, lc, rfl⟩, hl⟩ := hl
  have HL := hid_mk hl
  clear hl
  go_enter Try.func7, Try.ntmps7
  go_wp2_with fail
  refine (new_ok 1048576 w (by omega) (by omega)).mono ?_
  rintro e w1 ⟨b, bm, rfl, hM1, hg1⟩
  have H1 := hid_mk (MS.new hM1 hg1)
  generalize (fun k => w.heap.size ≤ k ∧ k < w1.heap.size) = Z1 at *
  clear hM1 hg1
  go_wp2_with (go_at_call 16; refine (num_any _ _).mono ?_; rintro e w' ⟨rfl, hw⟩; rw [hw]; clear hw)
  refine (knows_any w1).mono ?_
  rintro e w2 ⟨rfl, hg2⟩
  have H2 := hid_mk (show ∃ Z m, MS w w2 Z b m ∧ Op1 m 0 from ⟨Z1, newM 1048576 bm, H1.out.kept hg2, ⟨rfl, rfl, rfl, rfl, rfl, fun j h1 h2 => by omega, fun s hs => by cases hs⟩⟩)
  clear hg2 H1
  have hmm := @run_makeMap Try.prog
  go_wp2_with fail
  go_loopg [5] 3 (fun g iv W => ∃ i : Nat, i ≤ 3 ∧ g = 3 - i ∧ iv = .int .i64 ((i : Int) + 1) ∧ Hid (∃ Z m, MS w W Z b m ∧ Op1 m i))
  case atStart => exact ⟨0, by omega, rfl, rfl, H2⟩
  case round =>
    obtain ⟨i, hi, hgi, rfl, HI⟩ := hrel
    rename World => W
    clear H2
    obtain ⟨Z, m, hMS, hOp⟩ := HI.out
    have H3 := hid_mk (And.intro hMS hOp)
    clear HI hMS hOp
    by_cases hlt : i < 3
    · have hc : ((i : Int) + 1 ≤ 3) := by omega
      go_wp2_with fail
      refine (openC_any W).mono ?_
      rintro e w3 ⟨v3, rfl, ho3, hg3⟩
      obtain ⟨a3, c3, rfl⟩ := ho3.len
      have H4 := hid_mk (H3.out.1.cmd ho3 hg3)
      clear ho3 hg3
      generalize openB.length = n3 at *
      go_wp2_with fail
      have hlen : (atM m (i + 1)).ss.length < 16 := by
        have : (atM m (i + 1)).ss = m.ss := at_all fun s hs => by have := (H3.out.2.used s hs).1; rw [H3.out.2.sp]; omega
        rw [this, H3.out.2.len]; omega
      have HC := hid_mk (mc_open (i + 1) H4.out (by rw [H3.out.2.ap]; omega) (by omega) (by rw [H3.out.2.rs]; omega) hlen)
      clear hlen
      rw [show (((i + 1 : Nat)) : Int) = (i : Int) + 1 by omega] at HC
      refine HC.out.mono ?_
      rintro e w4 ⟨m4, rfl, hS4, hK4, e1, e2, e3, ⟨f, e4⟩, e5⟩
      have H5 := hid_mk (And.intro hS4 (H3.out.2.step hlt e1 e2 e3 e4 e5))
      clear hS4 hK4 e1 e2 e3 e4 e5 HC H4 H3
      generalize Nx Z w3 w4 = Z4 at *
      unfold resV
      rw [show (((i + 1 : Nat)) : Int) = (i : Int) + 1 by omega]
      have B4 := hid_mk (res_box w4 0 ((i : Int) + 1) 0)
      go_wp2_with fail
      generalize (w4.alloc (.cells #[.int .i64 0, .int .i64 ((i : Int) + 1), .int .i64 0] 52)) = w5 at *
      have H6 := hid_mk (And.intro (H5.out.1.kept B4.out.2.1) (And.intro H5.out.2 B4.out.1))
      generalize w4.heap.size = p4 at *
      clear B4 H5
      have d0 : w5.cell? ⟨p4, 0, none⟩ = some (.int .i64 0) := by rw [H6.out.2.2.cell]; rfl
      have d1 : w5.cell? ⟨p4, 1, none⟩ = some (.int .i64 ((i : Int) + 1)) := by rw [H6.out.2.2.cell]; rfl
      go_quiet ((first
        | (go_at_call 16; exact Calls.quiet_of_same (num_any _ _))))
      have H7 := hid_mk (show ∃ Z m, MS w (w5.drewN nq) Z b m ∧ Op1 m (i + 1) from ⟨Z4, m4, H6.out.1.kept (grown_drewN _ _ _), H6.out.2.1⟩)
      generalize w5.drewN nq = w6 at *
      clear H6 d0 d1
      go_wp2_with fail
      go_roundg (3 - (i + 1))
      case measure => omega
      case rel => exact ⟨i + 1, by omega, rfl, by go_num, H7⟩
    · obtain rfl : i = 3 := by omega
      have hc : ¬ (((3 : Nat) : Int) + 1 ≤ 3) := by omega
      have g1 := World.grownBy_alloc W (.map #[] 0) none
      have g2 := World.grownBy_alloc (W.alloc (.map #[] 0)) (.cells #[.int .i64 0, .int .i64 0, .int .i64 0, .int .i64 0] 3) none
      have HI0 := hid_mk (show OnI w ((W.alloc (.map #[] 0)).alloc (.cells #[.int .i64 0, .int .i64 0, .int .i64 0, .int .i64 0] 3)) b W.heap.size (W.heap.size + 1) 0 by
        refine ⟨Z, m, .map [], fun _ => 0, 0, H3.out.1.kept (grown_trans g1 g2), H3.out.2.pur, (World.ownsMap_made W Try.prog 71 (plainElem Try.prog 3)).alloc _, Nat.le_refl _, fun hh => by have := H3.out.1.hi _ hh; omega, H3.out.1.gr.size, ?_, fun hh => by have := H3.out.1.hi _ hh; omega, by have := H3.out.1.gr.size; omega⟩
        have := heap_alloc_new (W.alloc (.map #[] 0)) (.cells #[.int .i64 0, .int .i64 0, .int .i64 0, .int .i64 0] 3)
        simpa [Blk, lastV] using this)
      clear g1 g2 H3
      go_wp2_with fail
      generalize ((W.alloc (.map #[] 0)).alloc (.cells #[.int .i64 0, .int .i64 0, .int .i64 0, .int .i64 0] 3)) = W0 at *
      obtain ⟨bl, hbl⟩ : ∃ bl, bl = W.heap.size + 1 := ⟨_, rfl⟩
      rw [← hbl] at HI0 ⊢
      clear hbl
      generalize W.heap.size = bn at *
      clear hmm
      go_loopg [10] 200 (fun g iv W => ∃ k : Nat, k ≤ 200 ∧ g = 200 - k ∧ iv = .int .i64 k ∧ Hid (OnI w W b bn bl k))
      case atStart => exact ⟨0, by omega, rfl, rfl, HI0⟩
      case round =>
        obtain ⟨k, hk, hgk, rfl, HI⟩ := hrel
        rename World => w4
        clear HI0
        obtain ⟨Z4, m4, D, L, N, hMS, hPur, hmap, hN, hzn, hbn, hlast, hzl, hbl⟩ := HI.out
        have H4 := hid_mk (And.intro hMS (And.intro hPur (And.intro hmap (And.intro hN (And.intro (And.intro hzn hbn) (And.intro hlast (And.intro hzl hbl)))))))
        clear HI hMS hPur hmap hN hzn hbn hlast hzl hbl
        by_cases hgo : k < n ∧ k < 200
        · obtain ⟨hk1, hk2⟩ := hgo
          obtain ⟨g, off, hix, s0, q0, x, e0, e1, e2⟩ := HL.out k hk1
          have f0 : w4.cell? ⟨g, off, none⟩ = some (.int .i64 s0) := H4.out.1.gr.cell e0 (by simp)
          have f1 : w4.cell? ⟨g, off + 1, none⟩ = some (.int .i64 q0) := H4.out.1.gr.cell e1 (by simp)
          obtain ⟨⟨r1, r2⟩, r3, r4⟩ := idx_mod s0 3 (by decide)
          obtain ⟨⟨t1, t2⟩, t3, t4⟩ := idx_mod q0 9 (by decide)
          have HE := hid_mk (And.intro e0 (And.intro e1 e2))
          clear e0 e1 e2
          go_upto_region 17 with fail
          obtain ⟨j, hj⟩ : ∃ j : Nat, (j : Int) = 1 + s0.tmod 3 % 3 := ⟨(1 + s0.tmod 3 % 3).toNat, by omega⟩
          obtain ⟨q, hq⟩ : ∃ q : Nat, (q : Int) = 1 + q0.tmod 9 % 9 := ⟨(1 + q0.tmod 9 % 9).toNat, by omega⟩
          have hj1 : 1 ≤ j ∧ j ≤ 3 := by omega
          have hq1 : 1 ≤ q ∧ q ≤ 9 := by omega
          rw [← hj, ← hq]
          clear hj hq r1 r2 r3 r4 t1 t2 t3 t4 f0 f1
          obtain ⟨s, hs, hsq, hL9, hsr⟩ := H4.out.2.1.ses j hj1.1 hj1.2
          have HS := hid_mk (And.intro hs (And.intro hsq (And.intro hL9 hsr)))
          have hsq9 : s.q ≤ 9 := by omega
          have HP := hid_mk H4.out.2.1
          obtain ⟨R, hR⟩ : ∃ R, R = m4.rs.length := ⟨_, rfl⟩
          have hR2 : R ≤ 200 := by
            have h1 := HP.out.size
            have h2 := H4.out.2.2.1.size_le
            have h3 := H4.out.2.2.2.1
            omega
          have HR := hid_mk hR
          have HN := hid_mk H4.out.2.2.2.1
          have H5 := hid_mk (show RS w w4 Z4 b bn bl m4 D L N from ⟨H4.out.1, H4.out.2.2.1, H4.out.2.2.2.2.1.1, H4.out.2.2.2.2.1.2, H4.out.2.2.2.2.2.1, H4.out.2.2.2.2.2.2.1, H4.out.2.2.2.2.2.2.2⟩)
          clear hs hsq hL9 hsr H4
          go_wp2_with fail
          have HX := hid_mk (next_ms H5.out.ms (by omega))
          rw [HP.out.st, Nat.zero_add, ← hR] at HX
          clear hR
          refine HX.out.mono ?_
          rintro e w5 ⟨rfl, n5, rfl⟩
          have H6 := hid_mk (H5.out.kept (grown_drewN w4 n5 none))
          generalize w4.drewN n5 = w5 at *
          clear H5 HX
          have f2 : w5.cell? ⟨g, off + 2, none⟩ = some (.int .u8 x.toNat) := H6.out.ms.gr.cell HE.out.2.2 (by simp)
          go_wp2_with fail
          refine (lput_any j q x w5 (by omega) (by omega)).mono ?_
          rintro e w6 ⟨a6, c6, rfl, ho6, hg6⟩
          have H7 := hid_mk (And.intro (H6.out.ms.cmd ho6 hg6) (H6.out.kept hg6))
          clear ho6 hg6 H6 f2
          generalize (cmdB j q [x]).length = n6 at *
          go_wp2_with fail
          have hat := HP.out.at (show k < 1000 by omega)
          have hse : sesAt (atM m4 (4 + k)).ss j = some s := by rw [hat]; exact HS.out.1
          have HC := hid_mk (mc_put (4 + k) j q [x] H7.out.1 (by rw [HP.out.ap]; omega) (by omega) (by have := HR.out; omega) (by omega) (by omega) (by simp))
          rw [show (((4 + k : Nat)) : Int) = 4 + (k : Int) by omega] at HC
          rcases Nat.lt_trichotomy q s.q with hold | hsame | hnew
          · obtain ⟨p1, p2, p3⟩ := put_old (cm := ⟨2, j, q, 0, [x]⟩) hse hold
            rw [p1, p2, p3, hat] at HC
            clear p1 p2 p3 hat hse
            refine HC.out.mono ?_
            rintro e w7 ⟨m7, rfl, hS7, hK7, e1, e2, e3, e4, e5⟩
            have hlen : m7.rs.length = m4.rs.length := by have := congrArg List.length e5; simpa [atM, expM] using this
            have hP7 : Pur m7 D L (k + 1) := HP.out.step (s' := { s with u := 4 + k }) hj1 HS.out.1 (sesAt_some HS.out.1).2 (by show 1 ≤ 4 + k; omega) e1 e3 e2 e4 (fun _ _ => rfl) HS.out.2.1 HS.out.2.2.1 (Nat.le_refl _) (fun _ _ _ _ _ _ => ⟨rfl, rfl⟩) HS.out.2.2.2 (fun q' h1 h2 => HP.out.no j q' hj1.1 hj1.2 h1 h2) HP.out.tidy (by rw [hlen]; exact HP.out.size)
            have H8 := hid_mk (And.intro (H7.out.2.ap hS7 hK7) (And.intro hP7 (hlen.trans HR.out.symm)))
            have hqL : Hid (q < L j) := hid_mk (by have := HS.out.2.1; omega)
            clear hS7 hK7 e1 e2 e3 e4 e5 hlen hP7 HC H7 HS HP
            generalize Nx Z4 w6 w7 = Z7 at *
            unfold resV
            have B7 := hid_mk (res_box w7 41 0 0)
            go_upto_region 19 with fail
            generalize (w7.alloc (.cells #[.int .i64 41, .int .i64 0, .int .i64 0] 52)) = w8 at *
            have H9 := hid_mk (And.intro (H8.out.1.kept B7.out.2.1) (And.intro H8.out.2 B7.out.1))
            generalize w7.heap.size = p7 at *
            clear B7 H8
            have hm8 := H9.out.1.map
            have hk8 := key71 j q (by omega) (by omega)
            have d0 : w8.cell? ⟨p7, 0, none⟩ = some (.int .i64 41) := by rw [H9.out.2.2.cell]; rfl
            have dl : w8.cell? ⟨bl, j, none⟩ = some (.int .i64 (L j)) := by rw [H9.out.1.last.cell]; exact last_at L j hj1
            have hj4 : (j : Int) < 4 := by omega
            have hqn : ¬ ((L j : Int) ≤ (q : Int)) := by have := hqL.out; omega
            have HX9 := hid_mk (next_ms H9.out.1.ms (by rw [H9.out.2.1.2]; omega))
            rw [H9.out.2.1.1.st, Nat.zero_add, H9.out.2.1.2] at HX9
            go_wp2_with (first
              | (at_lookup; refine wpList_lookup_own_ok_int _ rfl _ _ 66 rfl 71 3 .i64 law71 Try.underlying66 Try.underlying3 (zero3 _) bn N D rfl hm8 _ _ rfl hk8 ?_; intro c hatc hwc)
              | (go_at_call 16; refine (num_any _ _).mono ?_; rintro e w' ⟨rfl, hw⟩; rw [hw]; clear hw)
              | (go_at_call 30; refine HX9.out.mono ?_; rintro e w' ⟨rfl, n9, hw⟩; rw [hw]; clear hw))
            go_roundg (200 - (k + 1))
            case measure => omega
            case rel =>
              have hF := H9.out.1.kept (grown_drewN w8 n9 none)
              exact ⟨k + 1, by omega, rfl, by go_num, hid_mk ⟨Z7, m7, D, L, N, hF.ms, H9.out.2.1.1, hF.map, by have := HN.out; omega, hF.zn, hF.lon, hF.last, hF.zl, hF.lol⟩⟩
          · obtain ⟨p1, p2, p3⟩ := put_same (cm := ⟨2, j, q, 0, [x]⟩) hse hsame.symm
            rw [p1, p2, p3, hat] at HC
            clear p1 p2 p3 hat hse
            refine HC.out.mono ?_
            rintro e w7 ⟨m7, rfl, hS7, hK7, e1, e2, e3, e4, e5⟩
            have hlen : m7.rs.length = m4.rs.length := by have := congrArg List.length e5; simpa [atM, expM] using this
            have hLj : L j = q := by have := HS.out.2.1; omega
            have hD1 : has D (kk j q) = true ∧ D.atKey (kk j q) (.lit (.int .i64 0)) = .lit (.int .i64 s.r) := by
              rcases HS.out.2.2.2 with h0 | h0
              · omega
              · rw [hLj] at h0; exact h0
            have hkl := kk_lit j q (by omega) (by omega)
            have hP7 : Pur m7 (D.put (kk j q) (.lit (.int .i64 s.r))) (setL L j q) (k + 1) := HP.out.step (s' := { s with u := 4 + k }) hj1 HS.out.1 (sesAt_some HS.out.1).2 (by show 1 ≤ 4 + k; omega) e1 e3 e2 e4 (fun k' h => by unfold setL; rw [if_neg h]) (by unfold setL; rw [if_pos rfl]; exact hsame.symm) (by unfold setL; rw [if_pos rfl]; omega) (by unfold setL; rw [if_pos rfl]; omega) (fun k' q' h1 h3 hne h9 => by
                have hk' : kk k' q' ≠ kk j q := kk_ne (by omega) (by omega) (by omega) (by omega) (.inl hne)
                exact ⟨has_put_other hk' _, atKey_put_other hk' _ _⟩) (.inr (by unfold setL; rw [if_pos rfl]; exact ⟨has_put_same HP.out.tidy.isMap hkl _, atKey_put_same HP.out.tidy.isMap hkl _ _⟩)) (fun q' h1 h2 => by
                unfold setL at h1
                rw [if_pos rfl] at h1
                have hk' : kk j q' ≠ kk j q := kk_ne (by omega) (by omega) (by omega) (by omega) (.inr (by omega))
                rw [has_put_other hk']
                exact HP.out.no j q' hj1.1 hj1.2 (by omega) h2) (HP.out.tidy.put hkl _) (by rw [size_put HP.out.tidy, hD1.1, if_pos rfl, hlen]; exact HP.out.size)
            have H8 := hid_mk (And.intro (H7.out.2.ap hS7 hK7) (And.intro hP7 (hlen.trans HR.out.symm)))
            have HD1 := hid_mk hD1
            clear hS7 hK7 e1 e2 e3 e4 e5 hlen hP7 HC H7 HS HP hkl hD1 hsame hLj
            generalize Nx Z4 w6 w7 = Z7 at *
            unfold resV
            have B7 := hid_mk (res_box w7 0 0 s.r)
            go_upto_region 19 with fail
            generalize (w7.alloc (.cells #[.int .i64 0, .int .i64 0, .int .i64 s.r] 52)) = w8 at *
            have H9 := hid_mk (And.intro (H8.out.1.kept B7.out.2.1) (And.intro H8.out.2 B7.out.1))
            generalize w7.heap.size = p7 at *
            clear B7 H8
            have hm8 := H9.out.1.map
            have hk8 := key71 j q (by omega) (by omega)
            have d0 : w8.cell? ⟨p7, 0, none⟩ = some (.int .i64 0) := by rw [H9.out.2.2.cell]; rfl
            have d2 : w8.cell? ⟨p7, 2, none⟩ = some (.int .i64 s.r) := by rw [H9.out.2.2.cell]; rfl
            have hj4 : (j : Int) < 4 := by omega
            have HX9 := hid_mk (next_ms H9.out.1.ms (by rw [H9.out.2.1.2]; omega))
            rw [H9.out.2.1.1.st, Nat.zero_add, H9.out.2.1.2] at HX9
            have hhas := HD1.out.1
            go_upto_region 20 with (first
              | (at_lookup; refine wpList_lookup_own_ok_int _ rfl _ _ 66 rfl 71 3 .i64 law71 Try.underlying66 Try.underlying3 (zero3 _) bn N D rfl hm8 _ _ rfl hk8 ?_; intro c hatc hwc))
            have hcr : c = (s.r : Int) := by
              have := HD1.out.2
              rw [hatc] at this
              simpa using this
            subst hcr
            have HW := hid_mk hwc
            clear hatc hwc
            go_wp2_with (first
              | (go_at_call 16; refine (num_any _ _).mono ?_; rintro e w' ⟨rfl, hw⟩; rw [hw]; clear hw)
              | (go_at_call 30; refine HX9.out.mono ?_; rintro e w' ⟨rfl, n9, hw⟩; rw [hw]; clear hw)
              | (at_mapUpdate; refine wpList_mapUpdate_in _ rfl _ _ _ 66 rfl 71 3 law71 Try.underlying66 _ bn N D rfl (hm8.kept (grown_drewN _ _ none) (by simp)) (by have := HN.out; unfold maxLen; omega) _ _ _ rfl rfl hk8 _ [] (plainElem_int Try.underlying3 HW.out) ?_; intro w9 hown9 hturn9; have R9 := hid_mk ((H9.out.1.kept (grown_drewN _ _ none)).noted hturn9.grown hown9); have dl9 : w9.cell? ⟨bl, j, none⟩ = some (.int .i64 (L j)) := (by rw [R9.out.last.cell]; exact last_at L j hj1); have fl9 := fun i => R9.out.last.frozen i))
            go_roundg (200 - (k + 1))
            case measure => omega
            case rel =>
              have hF := R9.out.lasted j q hj1
              exact ⟨k + 1, by omega, rfl, by go_num, hid_mk ⟨Z7, m7, _, setL L j q, N + 1, hF.ms, H9.out.2.1.1, hF.map, by have := HN.out; omega, hF.zn, hF.lon, hF.last, hF.zl, hF.lol⟩⟩
          · obtain ⟨p1, p2, p3⟩ := put_new (cm := ⟨2, j, q, 0, [x]⟩) hse hnew
            rw [p1, p2, p3, hat] at HC
            clear p1 p2 p3 hat hse
            rw [show (atM m4 (4 + k)).st + (atM m4 (4 + k)).rs.length = R by show m4.st + m4.rs.length = R; rw [HP.out.st, HR.out]; omega] at HC
            refine HC.out.mono ?_
            rintro e w7 ⟨m7, rfl, hS7, hK7, e1, e2, e3, e4, e5⟩
            have hlen : m7.rs.length = m4.rs.length + 1 := by have := congrArg List.length e5; simpa [atM, expM] using this
            have hLj : L j < q := by have := HS.out.2.1; omega
            have hD1 : has D (kk j q) = false := HP.out.no j q hj1.1 hj1.2 hLj hq1.2
            have hkl := kk_lit j q (by omega) (by omega)
            have hP7 : Pur m7 (D.put (kk j q) (.lit (.int .i64 R))) (setL L j q) (k + 1) := HP.out.step (s' := { s with q := q, r := R, u := 4 + k }) hj1 HS.out.1 (sesAt_some HS.out.1).2 (by show 1 ≤ 4 + k; omega) e1 e3 e2 e4 (fun k' h => by unfold setL; rw [if_neg h]) (by show q = setL L j q j; unfold setL; rw [if_pos rfl]) (by unfold setL; rw [if_pos rfl]; omega) (by unfold setL; rw [if_pos rfl]; omega) (fun k' q' h1 h3 hne h9 => by
                have hk' : kk k' q' ≠ kk j q := kk_ne (by omega) (by omega) (by omega) (by omega) (.inl hne)
                exact ⟨has_put_other hk' _, atKey_put_other hk' _ _⟩) (.inr (by unfold setL; rw [if_pos rfl]; exact ⟨has_put_same HP.out.tidy.isMap hkl _, atKey_put_same HP.out.tidy.isMap hkl _ _⟩)) (fun q' h1 h2 => by
                unfold setL at h1
                rw [if_pos rfl] at h1
                have hk' : kk j q' ≠ kk j q := kk_ne (by omega) (by omega) (by omega) (by omega) (.inr (by omega))
                rw [has_put_other hk']
                exact HP.out.no j q' hj1.1 hj1.2 (by omega) h2) (HP.out.tidy.put hkl _) (by rw [size_put HP.out.tidy, hD1, if_neg (by simp), hlen, HP.out.size])
            have H8 := hid_mk (And.intro (H7.out.2.ap hS7 hK7) (And.intro hP7 (show m7.rs.length = R + 1 by rw [hlen, HR.out])))
            have HD1 := hid_mk hD1
            clear hS7 hK7 e1 e2 e3 e4 e5 hlen hP7 HC H7 HS HP hkl hD1 hLj hnew
            generalize Nx Z4 w6 w7 = Z7 at *
            unfold resV
            have B7 := hid_mk (res_box w7 0 0 R)
            go_upto_region 19 with fail
            generalize (w7.alloc (.cells #[.int .i64 0, .int .i64 0, .int .i64 R] 52)) = w8 at *
            have H9 := hid_mk (And.intro (H8.out.1.kept B7.out.2.1) (And.intro H8.out.2 B7.out.1))
            generalize w7.heap.size = p7 at *
            clear B7 H8
            have hm8 := H9.out.1.map
            have hk8 := key71 j q (by omega) (by omega)
            have d0 : w8.cell? ⟨p7, 0, none⟩ = some (.int .i64 0) := by rw [H9.out.2.2.cell]; rfl
            have d2 : w8.cell? ⟨p7, 2, none⟩ = some (.int .i64 R) := by rw [H9.out.2.2.cell]; rfl
            have hj4 : (j : Int) < 4 := by omega
            have HX9 := hid_mk (next_ms H9.out.1.ms (by rw [H9.out.2.1.2]; omega))
            rw [H9.out.2.1.1.st, Nat.zero_add, H9.out.2.1.2] at HX9
            have hhas := HD1.out
            have hRne : (((R : Int) + 1) == (R : Int)) = false := by simp; omega
            go_upto_region 20 with (first
              | (at_lookup; refine wpList_lookup_own_ok_int _ rfl _ _ 66 rfl 71 3 .i64 law71 Try.underlying66 Try.underlying3 (zero3 _) bn N D rfl hm8 _ _ rfl hk8 ?_; intro c hatc hwc))
            clear hatc hwc
            go_wp2_with (first
              | (go_at_call 16; refine (num_any _ _).mono ?_; rintro e w' ⟨rfl, hw⟩; rw [hw]; clear hw)
              | (go_at_call 30; refine HX9.out.mono ?_; rintro e w' ⟨rfl, n9, hw⟩; rw [hw]; clear hw)
              | (at_mapUpdate; refine wpList_mapUpdate_in _ rfl _ _ _ 66 rfl 71 3 law71 Try.underlying66 _ bn N D rfl (hm8.kept (grown_drewN _ _ none) (by simp)) (by have := HN.out; unfold maxLen; omega) _ _ _ rfl rfl hk8 _ [] (plain3 R (by omega)) ?_; intro w9 hown9 hturn9; have R9 := hid_mk ((H9.out.1.kept (grown_drewN _ _ none)).noted hturn9.grown hown9); have dl9 : w9.cell? ⟨bl, j, none⟩ = some (.int .i64 (L j)) := (by rw [R9.out.last.cell]; exact last_at L j hj1); have fl9 := fun i => R9.out.last.frozen i))
            go_roundg (200 - (k + 1))
            case measure => omega
            case rel =>
              have hF := R9.out.lasted j q hj1
              exact ⟨k + 1, by omega, rfl, by go_num, hid_mk ⟨Z7, m7, _, setL L j q, N + 1, hF.ms, H9.out.2.1.1, hF.map, by have := HN.out; omega, hF.zn, hF.lon, hF.last, hF.zl, hF.lol⟩⟩
        · obtain ⟨R, hR⟩ : ∃ R, R = m4.rs.length := ⟨_, rfl⟩
          have hR2 : R ≤ 200 := by
            have h1 := H4.out.2.1.size
            have h2 := H4.out.2.2.1.size_le
            have h3 := H4.out.2.2.2.1
            omega
          have HX := hid_mk (next_ms H4.out.1 (by omega))
          rw [H4.out.2.1.st, Nat.zero_add, ← hR] at HX
          have hsz : Maps.size D = R := by rw [H4.out.2.1.size, hR]
          have hm4 := H4.out.2.2.1
          clear hR
          go_wp2_with (first
            | (go_at_call 30; refine HX.out.mono ?_; rintro e w' ⟨rfl, n9, hw⟩; rw [hw]; clear hw)
            | (at_len; refine wpList_len_own _ rfl _ 66 rfl 71 3 Try.underlying66 _ bn N D rfl (hm4.kept (grown_drewN _ _ none) (by simp)) ?_; rw [hsz]))
          all_goals (go_ret; exact ⟨rfl, grown_trans H4.out.1.gr (grown_drewN _ _ none)⟩)

end Go.Proofs.Ytpncbehabfkhkaa.W
