/- The document's Number. -/
import Derived.Test.YtmlppjmpoanlkaaGreatDoorKa
import Derived.Test.YtmlppjmpoanlkaaGreatDoorKg
import Derived.Test.YtmlppjmpoanlkaaGreatDoorKh
import Derived.Test.YtmlppjmpoanlkaaGreatDoorSnK
import Derived.Test.YtmlppjmpoanlkaaGreatDoorSnX
import Derived.Test.YtmlppjmpoanlkaaGreatDoorSnE
namespace Go.Proofs.YtmlppjmpoanlkaaGreatDoor.W
open Go.RowKit Go.Maps
set_option linter.unusedVariables false
set_option linter.unusedSimpArgs false
set_option maxRecDepth 100000


set_option maxHeartbeats 1000000 in
theorem rnumber_any (n : Nat) (w : World) (hn : n < 281474976710656) : Calls Tryz.prog 33 #[.int .i64 n] w fun e w' => ∃ v', e = .returned v' ∧ Own w' w.heap.size v' (numB n) ∧ w.grownBy w' none := by
  have h6 := digs_len 6 n (by simpa using hn)
  have HD := hid_mk h6
  clear h6
  go_enter Tryz.func33, Tryz.ntmps33
  go_wp2
  go_loopw [0, 3] (fun nv lv wr => ∃ (m k : Nat) (a : Option Addr) (c : Nat), nv = .int .i64 m ∧ lv = .slice a k c ∧ m ≤ n ∧ k ≤ 6 ∧ Hid (∃ d, Own wr w.heap.size lv d ∧ k = d.length ∧ d ++ digs m = digs n ∧ w.grownBy wr none)) (fun nv _ _ => (intOf nv).toNat)
  case atStart => exact ⟨n, 0, none, 0, rfl, rfl, Nat.le_refl _, by omega, hid_mk ⟨[], World.ownsRow_nil _ _ _ _, rfl, rfl, grown_refl _ _⟩⟩
  case round =>
    obtain ⟨m, k, a, c, rfl, rfl, hm, hk, Q⟩ := hrel
    obtain ⟨d, q⟩ := Q.out
    have Q := hid_mk q
    clear q
    by_cases h0 : m = 0
    · subst h0
      have HE := hid_mk (show d = digs n by have := Q.out.2.2.1; rw [digs_zero, List.append_nil] at this; exact this)
      have HK := hid_mk (own_new wr [UInt8.ofNat k] #[.int .u8 k] (by simp [u8s]; omega) (by unfold maxLen; simp))
      go_wp2_with (at_builtin; refine wpList_append_at w _ (k + 1) rfl (.tmp 16) (.tmp 17) rfl (grown_trans Q.out.2.2.2 (World.grownBy_alloc _ _ _)) (.slice (some ⟨wr.heap.size, 0, none⟩) 1 1) [UInt8.ofNat k] rfl (HK.out.base Q.out.2.2.2.size) d _ rfl ((Q.out.1.byt).kept (World.grownBy_alloc _ _ _)) (by have := Q.out.2.1; simp; omega) (by omega) (by omega) ?_; intro g1 c1 w2 L1 P1)
      go_ret
      refine ⟨_, rfl, ?_, P1.out.2.1⟩
      have := P1.out.1
      have e1 : [UInt8.ofNat k] ++ d = numB n := by rw [Q.out.2.1, HE.out]; rfl
      rw [e1] at this
      exact this
    · have hp : 0 < m := by omega
      have HU := hid_mk (fun W => byt_one W (UInt8.ofNat m) ((m : Int) % 256) (low8 m _ (by omega)))
      have HK6 := hid_mk (show k + 1 ≤ 6 by
        have h3 := congrArg List.length Q.out.2.2.1
        rw [List.length_append, digs_len_pos h0] at h3
        have := HD.out
        have := Q.out.2.1
        omega)
      go_wp2_with (at_builtin; refine wpList_append_at w _ (k + 1) rfl (.tmp 6) (.tmp 9) rfl (grown_trans Q.out.2.2.2 (World.grownBy_alloc _ _ _)) (.slice a k c) d rfl (Q.out.1.kept (World.grownBy_alloc _ _ none) (.inl rfl)) [UInt8.ofNat m] _ rfl (HU.out _) (by rw [← Q.out.2.1]; rfl) (by omega) (by omega) ?_; intro g3 c3 w3 L3 P3)
      go_roundw
      case rel =>
        refine ⟨m / 256, k + 1, _, c3, by go_num, rfl, by omega, HK6.out, hid_mk ⟨_, P3.out.1, by rw [List.length_append, ← Q.out.2.1]; rfl, ?_, P3.out.2.1⟩⟩
        rw [← Q.out.2.2.1, digs_pos h0]; simp
      case measure => simp [intOf]; omega


end Go.Proofs.YtmlppjmpoanlkaaGreatDoor.W

/- snaps: the document's Text, ServersBytes, Put. -/
namespace Go.Proofs.YtmlppjmpoanlkaaGreatDoor.W
open Go.RowKit Go.Maps
set_option linter.unusedVariables false
set_option linter.unusedSimpArgs false
set_option maxRecDepth 100000

theorem rtext_any (v : Value) (d : List UInt8) (w : World) (h : Byt w v d) (hd : d.length ≤ 1048576) : Calls Tryz.prog 34 #[v] w fun e w' => ∃ a c, e = .returned (.slice a (txtB d).length c) ∧ Own w' w.heap.size (.slice a (txtB d).length c) (txtB d) ∧ w.grownBy w' none := by
  obtain ⟨va, vc, rfl⟩ := h.len
  have HB := hid_mk h
  have hn := numB_le (n := d.length) (by omega)
  have HE := hid_mk (show (txtB d).length = (numB d.length).length + d.length by simp [txtB])
  have HN := hid_mk (rnumber_any d.length w (by omega))
  clear h
  go_enter Tryz.func34, Tryz.ntmps34
  go_wp2_with fail
  refine HN.out.mono ?_
  rintro e w1 ⟨v1, rfl, ho, hg⟩
  obtain ⟨a1, c1, rfl⟩ := ho.len
  have H1 := hid_mk (And.intro ho hg)
  clear ho hg HN
  go_wp2_with (at_builtin; refine wpList_append_new w _ rfl (.tmp 5) (.tmp 6) rfl H1.out.2 (.slice a1 (numB d.length).length c1) (numB d.length) rfl H1.out.1 d _ rfl (HB.out.kept H1.out.2) (by omega) ?_; intro a2 c2 w2 O2; rw [← HE.out] at O2 ⊢)
  go_ret
  exact ⟨a2, c2, rfl, O2.out.1, O2.out.2.1⟩

set_option maxHeartbeats 2000000 in
theorem rsrvB_any (v : Value) (l : List Int) (w : World) (h : IntsR w v l) (hl : l.length ≤ 7) (hn : ∀ z ∈ l, 0 ≤ z ∧ z < 281474976710656) : Calls Tryz.prog 35 #[v] w fun e w' => ∃ a c, e = .returned (.slice a (srvB l).length c) ∧ Own w' w.heap.size (.slice a (srvB l).length c) (srvB l) ∧ w.grownBy w' none := by
  obtain ⟨va, vc, rfl⟩ := h.len
  have HB := hid_mk h
  have HZ := hid_mk hn
  have h0 := numB_le (n := l.length) (by omega)
  have HN := hid_mk (rnumber_any l.length w (by omega))
  clear h hn
  go_enter Tryz.func35, Tryz.ntmps35
  go_wp2_with fail
  refine HN.out.mono ?_
  rintro e w1 ⟨v1, rfl, ho, hg⟩
  obtain ⟨a1, c1, rfl⟩ := ho.len
  have H1 := hid_mk (And.intro ho hg)
  clear ho hg HN
  go_wp2_with fail
  go_loopw [3, 4] (fun bv iv W => ∃ (i n : Nat) (a : Option Addr) (c : Nat), i ≤ l.length ∧ iv = .int .i64 i ∧ bv = .slice a n c ∧ n ≤ 7 + 7 * i ∧ Hid (Own W w.heap.size bv (numB l.length ++ numsB ((l.take i).map Int.toNat)) ∧ w.grownBy W none ∧ n = (numB l.length ++ numsB ((l.take i).map Int.toNat)).length)) (fun _ iv _ => l.length - (intOf iv).toNat)
  case atStart => exact ⟨0, _, a1, c1, Nat.zero_le _, rfl, rfl, by omega, hid_mk ⟨by simpa [numsB] using H1.out.1, H1.out.2, by simp [numsB]⟩⟩
  case round =>
    obtain ⟨i, n, a, c, hi, rfl, rfl, hn7, H⟩ := hrel
    rename World => W
    clear H1
    by_cases hlt : i < l.length
    · obtain ⟨b, off, cap, e0, _, hc⟩ := HB.out.at (by omega)
      have hz := HZ.out l[i] (List.getElem_mem hlt)
      have hcell : W.cell? ⟨b, off + i, none⟩ = some (.int .i64 l[i]) := H.out.2.1.cell (hc i l[i] (by simp [hlt])) (by simp)
      have HX := hid_mk (show numsB ((l.take (i + 1)).map Int.toNat) = numsB ((l.take i).map Int.toNat) ++ numB l[i].toNat by
        rw [List.take_succ_eq_append_getElem hlt, List.map_append]; simp [numsB])
      generalize l[i] = x at *
      cases e0
      obtain ⟨xn, rfl⟩ := Int.eq_ofNat_of_zero_le hz.1
      have hx7 := numB_le (n := xn) (by omega)
      have hlt' : (i : Int) < (l.length : Int) := by omega
      clear hc
      go_wp2_with fail
      refine (rnumber_any xn W (by omega)).mono ?_
      rintro e W1 ⟨v2, rfl, ho, hg⟩
      obtain ⟨a2, c2, rfl⟩ := ho.len
      have H2 := hid_mk (And.intro ho.byt hg)
      clear ho hg hcell
      go_wp2_with (at_builtin; refine wpList_append_new w _ rfl (.tmp 14) (.tmp 19) rfl (grown_trans H.out.2.1 H2.out.2) (.slice a n c) (numB l.length ++ numsB ((l.take i).map Int.toNat)) rfl (owns_kept H.out.1 H2.out.2 (fun _ _ _ => by simp)) (numB xn) _ rfl H2.out.1 (by rw [← H.out.2.2]; omega) ?_; intro a3 c3 w3 P3; rw [← H.out.2.2] at P3 ⊢)
      go_roundw
      case rel => exact ⟨i + 1, n + (numB xn).length, a3, c3, by omega, by go_num, rfl, by omega, hid_mk ⟨by rw [HX.out, ← List.append_assoc]; exact P3.out.1, P3.out.2.1, by rw [HX.out, ← List.append_assoc, List.length_append, ← H.out.2.2]; rfl⟩⟩
      case measure => simp [intOf]; omega
    · have hil : i = l.length := by omega
      subst hil
      have hnl : ¬ ((l.length : Int) < (l.length : Int)) := by omega
      go_wp2_with fail
      go_ret
      have := H.out
      rw [List.take_length] at this
      have e : numB l.length ++ numsB (l.map Int.toNat) = srvB l := rfl
      rw [e] at this
      obtain ⟨t1, t2, t3⟩ := this
      subst t3
      exact ⟨a, c, rfl, t1, t2⟩

/-- append of bytes to bytes of one's own, as it runs. -/
theorem run_app_byt (w : World) (B : Nat) (hB : B ≤ w.heap.size) (v : Value) (l0 : List UInt8) (hown : Own w B v l0) (l : List UInt8) (sv : Value) (hsrc : Byt w sv l) (h47 : l0.length + l.length ≤ 140737488355328) :
    ∃ a' cap' w', (Builtin.append_ #[23, 23] 23 #[v, sv]).run Tryz.prog w = .ok (.slice a' (l0.length + l.length) cap') w' ∧ Own w' B (.slice a' (l0.length + l.length) cap') (l0 ++ l) ∧ w.grownBy w' v.ownBlock := by
  obtain ⟨i, hi, hz, hsize, hby⟩ := info_parts info5
  have hsrc' : (sv = .slice none 0 0 ∧ l = []) ∨ ∃ ad c, sv = .slice (some ad) l.length c ∧ ∀ j u, (u8s l)[j]? = some u → w.cell? (ad.add j) = some u := by
    clear hi hz hsize hby hown
    rcases hsrc with ⟨rfl, a', cap', rfl, hn⟩ | ⟨b, off, cap', rfl, _, hc⟩
    · cases a' with
      | none => obtain rfl := hn rfl; exact .inl ⟨rfl, rfl⟩
      | some a' => exact .inr ⟨a', cap', rfl, fun j u hj => by simp [u8s] at hj⟩
    · refine .inr ⟨_, cap', rfl, fun j u hj => ?_⟩
      simp only [u8s, List.getElem?_map, Option.map_eq_some_iff] at hj
      obtain ⟨c, hc', rfl⟩ := hj
      have := hc j c hc'
      rw [← this]; congr 1; unfold Addr.add; split <;> simp_all
  have e0 : u8s (l0 ++ l) = u8s l0 ++ u8s l := u8s_append _ _
  rcases hsrc' with ⟨rfl, rfl⟩ | ⟨ad, c, rfl, hc⟩
  · have hrun := run_append_owned_none (P := Tryz.prog) w B 23 23 5 i 1 Tryz.underlying23 hi v l0.length (u8s l0) hown
    obtain ⟨a1, c1, rfl⟩ := hown.len
    exact ⟨a1, c1, w, by simpa using hrun, by simpa using hown, grown_refl _ _⟩
  · obtain ⟨v', w', hr, h1, h2, _⟩ := run_append_own_at (P := Tryz.prog) w B 23 23 5 i (.int .u8 0) 1 1 Tryz.underlying23 hi hz hsize hby rfl (by decide) v l0.length (u8s l0) hown ad l.length c (u8s l) (by simp [u8s_len]) hc (u8s_one l) (by unfold maxLen; omega) (by omega) hB
    have h1' : Own w' B v' (l0 ++ l) := by unfold Own; rw [e0, List.length_append]; exact h1
    obtain ⟨a1, c1, e⟩ := h1'.len
    rw [List.length_append] at e
    subst e
    exact ⟨a1, c1, w', hr, h1', h2⟩
theorem exec_append {w w' : World} {o : Oper} {a : Act} (s y : Operand) (ho : o.op = .call { callee := .builtin .append, args := #[s, y], argTypes := #[23, 23] }) {v u v' : Value} (hs : a.eval s = v) (hy : a.eval y = u) (ht : o.type = 23) (hr : (Builtin.append_ #[23, 23] 23 #[v, u]).run Tryz.prog w = .ok v' w') : (execOp a.eval o).run Tryz.prog w = .ok (.value v') w' := by
  unfold execOp
  simp only [ho, ht, resolve, invoke, builtin, Sem.run_bind, Sem.run_pure, Result.andThen_ok, List.map_toArray, List.map_cons, List.map_nil, hs, hy, hr]

theorem rput_bad (x : Snap) (sv dv : Value) (w : World) (h : SnapAt w sv dv x) (hm : mayS x = false) (hl : x.s.length ≤ 140737488355328) : Calls Tryz.prog 10 #[snapV x sv dv] w fun e w' => e = .returned (.tuple #[.slice none 0 0, .int .i64 1]) ∧ w.grownBy w' none := by
  obtain ⟨sa, sc, rfl⟩ := h.s.len
  obtain ⟨da, dc, rfl⟩ := h.d.len
  have HA : Hid (V.Blk (w.alloc (.cells #[.int .i64 x.i, .int .i64 x.t, .slice sa x.s.length sc, .slice da x.d.length dc] 25)) w.heap.size #[.int .i64 x.i, .int .i64 x.t, .slice sa x.s.length sc, .slice da x.d.length dc] 25 ∧ w.grownBy (w.alloc (.cells #[.int .i64 x.i, .int .i64 x.t, .slice sa x.s.length sc, .slice da x.d.length dc] 25)) none) := hid_mk ⟨heap_alloc_new _ _, World.grownBy_alloc _ _ _⟩
  have HR := hid_mk (right_doc x _ _ _ (h.kept HA.out.2) hl)
  have HM := hid_mk hm
  clear h hm
  unfold snapV at HR ⊢
  go_enter Tryz.func10, Tryz.ntmps10
  go_upto_region 1 with fail
  have q0 : (w.alloc (.cells #[.int .i64 x.i, .int .i64 x.t, .slice sa x.s.length sc, .slice da x.d.length dc] 25)).cell? ⟨w.heap.size, 0, none⟩ = some (.int .i64 x.i) := by rw [HA.out.1.cell]; rfl
  have q1 : (w.alloc (.cells #[.int .i64 x.i, .int .i64 x.t, .slice sa x.s.length sc, .slice da x.d.length dc] 25)).cell? ⟨w.heap.size, 1, none⟩ = some (.int .i64 x.t) := by rw [HA.out.1.cell]; rfl
  have q2 : (w.alloc (.cells #[.int .i64 x.i, .int .i64 x.t, .slice sa x.s.length sc, .slice da x.d.length dc] 25)).cell? ⟨w.heap.size, 2, none⟩ = some (.slice sa x.s.length sc) := by rw [HA.out.1.cell]; rfl
  have q3 : (w.alloc (.cells #[.int .i64 x.i, .int .i64 x.t, .slice sa x.s.length sc, .slice da x.d.length dc] 25)).cell? ⟨w.heap.size, 3, none⟩ = some (.slice da x.d.length dc) := by rw [HA.out.1.cell]; rfl
  generalize (w.alloc (.cells #[.int .i64 x.i, .int .i64 x.t, .slice sa x.s.length sc, .slice da x.d.length dc] 25)) = w1 at *
  generalize w.heap.size = q at *
  go_wp2_with fail
  refine HR.out.mono ?_
  rintro e w2 ⟨rfl, hg2⟩
  rw [HM.out]
  have G2 := hid_mk (grown_trans HA.out.2 hg2)
  go_wp2_with fail
  go_ret2
  exact ⟨rfl, G2.out⟩

end Go.Proofs.YtmlppjmpoanlkaaGreatDoor.W

/- snaps: the document's Put. -/
namespace Go.Proofs.YtmlppjmpoanlkaaGreatDoor.W
open Go.RowKit Go.Maps
set_option linter.unusedVariables false
set_option linter.unusedSimpArgs false
set_option maxRecDepth 100000

set_option maxHeartbeats 2000000 in
theorem rput_ok (x : Snap) (sv dv : Value) (w : World) (h : SnapAt w sv dv x) (hm : mayS x = true) (hl : x.s.length ≤ 140737488355328) : Calls Tryz.prog 10 #[snapV x sv dv] w fun e w' => ∃ a c, e = .returned (.tuple #[.slice a (snapB x).length c, .int .i64 0]) ∧ Byt w' (.slice a (snapB x).length c) (snapB x) ∧ w.grownBy w' none := by
  obtain ⟨sa, sc, rfl⟩ := h.s.len
  obtain ⟨da, dc, rfl⟩ := h.d.len
  have HA : Hid (V.Blk (w.alloc (.cells #[.int .i64 x.i, .int .i64 x.t, .slice sa x.s.length sc, .slice da x.d.length dc] 25)) w.heap.size #[.int .i64 x.i, .int .i64 x.t, .slice sa x.s.length sc, .slice da x.d.length dc] 25 ∧ w.grownBy (w.alloc (.cells #[.int .i64 x.i, .int .i64 x.t, .slice sa x.s.length sc, .slice da x.d.length dc] 25)) none) := hid_mk ⟨heap_alloc_new _ _, World.grownBy_alloc _ _ _⟩
  have HR := hid_mk (right_doc x _ _ _ (h.kept HA.out.2) hl)
  have HS := hid_mk (h.kept HA.out.2)
  have HM := hid_mk hm
  have hr := (mayS_iff.1 hm).1
  obtain ⟨b1, b2, b3, b4, b5⟩ := inB_iff.1 (mayS_iff.1 hm).2
  have HZ := hid_mk (show x.s.length ≤ 7 ∧ ∀ z ∈ x.s, 0 ≤ z ∧ z < 281474976710656 by
    unfold rightS at hr
    have hr' := of_decide_eq_true hr
    exact ⟨hr'.2.1, fun z hz => by have := rising_mem hr'.2.2 (by omega) z hz; omega⟩)
  have HL := hid_mk (show (srvB x.s).length ≤ 4096 from by have := srvB_len hr; omega)
  clear h hm hr
  unfold snapV at HR ⊢
  go_enter Tryz.func10, Tryz.ntmps10
  go_upto_region 1 with fail
  have q0 : (w.alloc (.cells #[.int .i64 x.i, .int .i64 x.t, .slice sa x.s.length sc, .slice da x.d.length dc] 25)).cell? ⟨w.heap.size, 0, none⟩ = some (.int .i64 x.i) := by rw [HA.out.1.cell]; rfl
  have q1 : (w.alloc (.cells #[.int .i64 x.i, .int .i64 x.t, .slice sa x.s.length sc, .slice da x.d.length dc] 25)).cell? ⟨w.heap.size, 1, none⟩ = some (.int .i64 x.t) := by rw [HA.out.1.cell]; rfl
  have q2 : (w.alloc (.cells #[.int .i64 x.i, .int .i64 x.t, .slice sa x.s.length sc, .slice da x.d.length dc] 25)).cell? ⟨w.heap.size, 2, none⟩ = some (.slice sa x.s.length sc) := by rw [HA.out.1.cell]; rfl
  have q3 : (w.alloc (.cells #[.int .i64 x.i, .int .i64 x.t, .slice sa x.s.length sc, .slice da x.d.length dc] 25)).cell? ⟨w.heap.size, 3, none⟩ = some (.slice da x.d.length dc) := by rw [HA.out.1.cell]; rfl
  generalize (w.alloc (.cells #[.int .i64 x.i, .int .i64 x.t, .slice sa x.s.length sc, .slice da x.d.length dc] 25)) = w1 at *
  obtain ⟨q, hq⟩ : ∃ q, q = w.heap.size := ⟨_, rfl⟩
  rw [← hq] at HA q0 q1 q2 q3 ⊢
  clear hq
  go_wp2_with fail
  refine HR.out.mono ?_
  rintro e w2 ⟨rfl, hg2⟩
  rw [HM.out]
  have H2 := hid_mk (show w.grownBy w2 none ∧ V.Blk w2 q #[.int .i64 x.i, .int .i64 x.t, .slice sa x.s.length sc, .slice da x.d.length dc] 25 ∧ IntsR w2 (.slice sa x.s.length sc) x.s ∧ Byt w2 (.slice da x.d.length dc) x.d from ⟨grown_trans HA.out.2 hg2, HA.out.1.kept hg2 (by simp), (HS.out.kept hg2).s, (HS.out.kept hg2).d⟩)
  clear hg2 q0 q1 q2 q3 HA HS HR
  have HC : ∀ W0, w2.grownBy W0 none → W0.cell? ⟨q, 0, none⟩ = some (.int .i64 x.i) ∧ W0.cell? ⟨q, 1, none⟩ = some (.int .i64 x.t) ∧ W0.cell? ⟨q, 2, none⟩ = some (.slice sa x.s.length sc) ∧ W0.cell? ⟨q, 3, none⟩ = some (.slice da x.d.length dc) := fun W0 hW => by
    have hb := H2.out.2.1.kept hW (by simp)
    exact ⟨by rw [hb.cell]; rfl, by rw [hb.cell]; rfl, by rw [hb.cell]; rfl, by rw [hb.cell]; rfl⟩
  obtain ⟨xi, hxi⟩ := Int.eq_ofNat_of_zero_le (show 0 ≤ x.i by omega)
  obtain ⟨xt, hxt⟩ := Int.eq_ofNat_of_zero_le (show 0 ≤ x.t by omega)
  have hin : Hid (snapB x = F.putB 5 (numB xi ++ numB xt ++ txtB (srvB x.s) ++ txtB x.d)) := hid_mk (by unfold snapB inS; rw [hxi, hxt]; simp [List.append_assoc])
  rw [hxi, hxt] at HC
  rw [hxi] at b1 b2
  rw [hxt] at b3 b4
  have n1 := numB_le (n := xi) (by omega)
  have n2 := numB_le (n := xt) (by omega)
  have HT := hid_mk (show (txtB (srvB x.s)).length ≤ 4110 ∧ (txtB x.d).length ≤ 60010 by
    unfold txtB
    simp only [List.length_append]
    have := numB_le (n := (srvB x.s).length) (by have := HL.out; omega)
    have := numB_le (n := x.d.length) (by omega)
    have := HL.out
    omega)
  clear hxi hxt
  go_upto_region 3 with fail
  refine wp_region_mix [(0, true), (1, true), (3, true), (4, true), (2, false), (5, false), (6, false), (7, true)] (at0 w2 (fun W0 => w2.grownBy W0 none)) (by kernel_rfl) (by kernel_rfl) rfl (by kernel_rfl) (shut_at0 (fun m => grown_drewN _ m none)) ⟨1, rfl⟩ ?_
  repeat (first
    | (refine mix_rd1 rfl rfl (fun K hK => ?_); apply Exists.intro; refine ⟨fun W0 hW => ?_, ?_⟩; (obtain ⟨f0, f1, f2, f3⟩ := HC W0 hW; go_simp; rfl); (go_simp; refine hK _ _ ?_; clear hK K)))
  refine mix_call rfl rfl 33 #[.int .i64 xi] (fun W0 => by go_simp) ?_
  rintro W0 ⟨m3, rfl⟩
  refine (rnumber_any xi (w2.drewN m3) (by omega)).mono ?_
  rintro e w3 ⟨v3, rfl, ho3, hg3⟩
  obtain ⟨a3, c3, rfl⟩ := ho3.len
  have H3 := hid_mk (show w2.grownBy w3 none ∧ Own w3 w2.heap.size (.slice a3 (numB xi).length c3) (numB xi) from ⟨grown_trans (grown_drewN w2 m3 none) hg3, by have := ho3; simpa using this⟩)
  clear ho3 hg3
  refine ⟨_, rfl, at0 w3 (fun W0 => w2.grownBy W0 none), ⟨0, rfl⟩, shut_at0 (fun m => grown_trans H3.out.1 (grown_drewN _ m none)), fun _ h => h, ?_⟩
  refine mix_call rfl rfl 33 #[.int .i64 xt] (fun W0 => by go_simp) ?_
  rintro W0 ⟨m4, rfl⟩
  refine (rnumber_any xt (w3.drewN m4) (by omega)).mono ?_
  rintro e w4 ⟨v4, rfl, ho4, hg4⟩
  obtain ⟨a4, c4, rfl⟩ := ho4.len
  have H4 := hid_mk (show w2.grownBy w4 none ∧ Own w4 w2.heap.size (.slice a3 (numB xi).length c3) (numB xi) ∧ Byt w4 (.slice a4 (numB xt).length c4) (numB xt) from ⟨grown_trans H3.out.1 (grown_trans (grown_drewN w3 m4 none) hg4), owns_kept H3.out.2 (grown_trans (grown_drewN w3 m4 none) hg4) (fun _ _ _ => by simp), ho4.byt⟩)
  clear ho4 hg4 H3
  refine ⟨_, rfl, at0 w4 (fun W0 => w2.grownBy W0 none), ⟨0, rfl⟩, shut_at0 (fun m => grown_trans H4.out.1 (grown_drewN _ m none)), fun _ h => h, ?_⟩
  refine mix_do rfl rfl ?_
  rintro W0 ⟨m5, rfl⟩
  have hro := owns_kept H4.out.2.1 (grown_drewN w4 m5 none) (fun _ _ _ => by simp)
  have hgo := grown_trans H4.out.1 (grown_drewN w4 m5 none)
  obtain ⟨a5, c5, w5, hr5, ho5, hg5⟩ := run_app_byt (w4.drewN m5) w2.heap.size hgo.size (.slice a3 (numB xi).length c3) (numB xi) hro (numB xt) (.slice a4 (numB xt).length c4) (H4.out.2.2.kept (grown_drewN _ _ none)) (by omega)
  have hgr5 := grown_row hgo hro hg5
  have H5 := hid_mk (show w2.grownBy w5 none ∧ Own w5 w2.heap.size (.slice a5 ((numB xi).length + (numB xt).length) c5) (numB xi ++ numB xt) from ⟨hgr5, ho5⟩)
  refine ⟨_, w5, exec_append (.tmp 12) (.tmp 15) rfl rfl rfl rfl hr5, at0 w5 (fun W0 => w2.grownBy W0 none), ⟨0, rfl⟩, shut_at0 (fun m => grown_trans H5.out.1 (grown_drewN _ m none)), fun _ h => h, ?_⟩
  clear hr5 ho5 hg5 H4 hro hgo hgr5
  refine mix_rd1 rfl rfl (fun K hK => ?_)
  apply Exists.intro
  refine ⟨fun W0 hW => (by go_simp; rfl), ?_⟩
  go_simp
  refine hK _ _ ?_
  clear hK K
  refine mix_nil ?_
  rintro W ⟨m6, rfl⟩
  have H6 := hid_mk (show w2.grownBy (w5.drewN m6) none ∧ Own (w5.drewN m6) w2.heap.size (.slice a5 ((numB xi).length + (numB xt).length) c5) (numB xi ++ numB xt) from ⟨grown_trans H5.out.1 (grown_drewN _ _ none), owns_kept H5.out.2 (grown_drewN _ _ none) (fun _ _ _ => by simp)⟩)
  generalize w5.drewN m6 = w6 at *
  clear H5
  obtain ⟨f0, f1, f2, f3⟩ := HC w6 H6.out.1
  go_wp2_with fail
  refine (rsrvB_any _ x.s w6 (H2.out.2.2.1.kept H6.out.1) HZ.out.1 HZ.out.2).mono ?_
  rintro e w7 ⟨a7, c7, rfl, ho7, hg7⟩
  have H7 := hid_mk (show w2.grownBy w7 none ∧ Own w7 w2.heap.size (.slice a5 ((numB xi).length + (numB xt).length) c5) (numB xi ++ numB xt) ∧ Byt w7 (.slice a7 (srvB x.s).length c7) (srvB x.s) from ⟨grown_trans H6.out.1 hg7, owns_kept H6.out.2 hg7 (fun _ _ _ => by simp), ho7.byt⟩)
  clear ho7 hg7 H6 f0 f1 f2 f3
  go_wp2_with fail
  refine (rtext_any _ (srvB x.s) w7 H7.out.2.2 (by have := HL.out; omega)).mono ?_
  rintro e w8 ⟨a8, c8, rfl, ho8, hg8⟩
  have H8 := hid_mk (show w2.grownBy w8 none ∧ Own w8 w2.heap.size (.slice a5 ((numB xi).length + (numB xt).length) c5) (numB xi ++ numB xt) ∧ Byt w8 (.slice a8 (txtB (srvB x.s)).length c8) (txtB (srvB x.s)) from ⟨grown_trans H7.out.1 hg8, owns_kept H7.out.2.1 hg8 (fun _ _ _ => by simp), ho8.byt⟩)
  clear ho8 hg8 H7
  obtain ⟨A1, hA1⟩ : ∃ A1, A1 = numB xi ++ numB xt := ⟨_, rfl⟩
  obtain ⟨A2, hA2⟩ : ∃ A2, A2 = txtB (srvB x.s) := ⟨_, rfl⟩
  obtain ⟨A3, hA3⟩ : ∃ A3, A3 = txtB x.d := ⟨_, rfl⟩
  have hl1 : (numB xi).length + (numB xt).length = A1.length := by rw [hA1, List.length_append]
  rw [← hA1, ← hA2, hl1] at H8
  rw [← hA1, ← hA2, ← hA3] at hin
  rw [← hA2, ← hA3] at HT
  rw [← hA2, hl1]
  have HA3 := hid_mk hA3
  have h1l : A1.length ≤ 14 := by omega
  clear hA1 hA2 hA3 hl1
  have h2l := HT.out.1
  have h3l := HT.out.2
  obtain ⟨A4, hA4⟩ : ∃ A4, A4 = A1 ++ A2 := ⟨_, rfl⟩
  obtain ⟨N4, hN4⟩ : ∃ N4, N4 = A1.length + A2.length := ⟨_, rfl⟩
  obtain ⟨A5, hA5⟩ : ∃ A5, A5 = A4 ++ A3 := ⟨_, rfl⟩
  obtain ⟨N5, hN5⟩ : ∃ N5, N5 = A4.length + A3.length := ⟨_, rfl⟩
  have HN := hid_mk (show A4 = A1 ++ A2 ∧ N4 = A1.length + A2.length ∧ A5 = A4 ++ A3 ∧ N5 = A4.length + A3.length ∧ A4.length = N4 ∧ A5.length = N5 from ⟨hA4, hN4, hA5, hN5, by rw [hA4, hN4, List.length_append], by rw [hA5, hN5, List.length_append]⟩)
  rw [← hA4, ← hA5] at hin
  have h4l : A4.length ≤ 4124 := by rw [hA4, List.length_append]; omega
  have h5l : A5.length ≤ 64200 := by rw [hA5, List.length_append]; omega
  clear hA4 hN4 hA5 hN5
  go_wp2_with (at_builtin; refine wpList_append_new w2 _ rfl (.tmp 17) (.tmp 21) rfl H8.out.1 (.slice a5 A1.length c5) A1 rfl H8.out.2.1 A2 _ rfl H8.out.2.2 (by omega) ?_; intro a9 c9 w9 O9; rw [← HN.out.2.1, ← HN.out.1] at O9; rw [← HN.out.2.1]; obtain ⟨f0, f1, f2, f3⟩ := HC w9 O9.out.2.1)
  refine (rtext_any _ x.d w9 (H2.out.2.2.2.kept O9.out.2.1) (by omega)).mono ?_
  rw [← HA3.out]
  rintro e w10 ⟨a10, c10, rfl, ho10, hg10⟩
  have H10 := hid_mk (show w2.grownBy w10 none ∧ Own w10 w2.heap.size (.slice a9 N4 c9) A4 ∧ Byt w10 (.slice a10 A3.length c10) A3 from ⟨grown_trans O9.out.2.1 hg10, owns_kept O9.out.1 hg10 (fun _ _ _ => by simp), ho10.byt⟩)
  clear ho10 hg10 O9 f0 f1 f2 f3 H8
  go_wp2_with (at_builtin; refine wpList_append_new w2 _ rfl (.tmp 24) (.tmp 27) rfl H10.out.1 (.slice a9 N4 c9) A4 rfl H10.out.2.1 A3 _ rfl H10.out.2.2 (by omega) ?_; intro a11 c11 w11 O11; rw [← HN.out.2.2.2.1, ← HN.out.2.2.1] at O11; rw [← HN.out.2.2.2.1])
  have HP := hid_mk (F.rput_any 5 (.slice a11 N5 c11) A5 w11 O11.out.1.byt)
  have he : F.putErr 5 A5.length = 0 := by unfold F.putErr; rw [if_neg (by omega), if_neg (by omega)]
  unfold F.PutPost at HP
  rw [F.putL_ok he, he, show UInt8.ofNat ((5 : Int).toNat) = 5 from rfl, ← hin.out] at HP
  clear he
  refine HP.out.mono ?_
  rintro e w12 ⟨a12, c12, rfl, hb12, hg12⟩
  have H12 := hid_mk (show Byt w12 (.slice a12 (snapB x).length c12) (snapB x) ∧ w.grownBy w12 none from ⟨hb12, grown_trans H2.out.1 (grown_trans O11.out.2.1 hg12)⟩)
  clear hb12 hg12 HP
  go_wp2_with fail
  go_ret2
  exact ⟨a12, c12, rfl, H12.out.1, H12.out.2⟩

end Go.Proofs.YtmlppjmpoanlkaaGreatDoor.W

/- snaps: the document's Get. -/
namespace Go.Proofs.YtmlppjmpoanlkaaGreatDoor.W
open Go.RowKit Go.Maps
set_option linter.unusedVariables false
set_option linter.unusedSimpArgs false
set_option maxRecDepth 100000

theorem got_right {d : List UInt8} (h : gotE d = 0) : rightS (gotL d) = true := by
  unfold gotE at h
  unfold gotL
  by_cases ho : getOk d = true
  · rw [if_pos ho]
    unfold getOk at ho
    rw [Bool.and_eq_true] at ho
    exact ho.2
  · rw [if_neg ho] at h; cases h
/-- A Snapshot in memory. -/
def SD (w : World) (b : Nat) (i t : Int) (sv dv : Value) : Prop := V.Blk w b #[.int .i64 i, .int .i64 t, sv, dv] 25
theorem SD.all {w : World} {b : Nat} {i t : Int} {sv dv : Value} (h : SD w b i t sv dv) : w.cell? ⟨b, 0, none⟩ = some (.int .i64 i) ∧ w.cell? ⟨b, 1, none⟩ = some (.int .i64 t) ∧ w.cell? ⟨b, 2, none⟩ = some sv ∧ w.cell? ⟨b, 3, none⟩ = some dv ∧ ∀ j, w.frozen? ⟨b, j, none⟩ = false :=
  ⟨by rw [h.cell]; rfl, by rw [h.cell]; rfl, by rw [h.cell]; rfl, by rw [h.cell]; rfl, fun j => h.frozen j⟩
theorem SD.laid {w : World} {b : Nat} {i t : Int} {sv dv : Value} (h : SD w b i t sv dv) (i' t' : Int) (sv' dv' : Value) : SD ((((w.setCell ⟨b, 0, none⟩ (.int .i64 i')).setCell ⟨b, 1, none⟩ (.int .i64 t')).setCell ⟨b, 2, none⟩ sv').setCell ⟨b, 3, none⟩ dv') b i' t' sv' dv' :=
  (V.Blk.set (V.Blk.set (V.Blk.set (V.Blk.set h 0 _) 1 _) 2 _) 3 _)
theorem load25 (w : World) (b : Nat) (i t : Int) (sv dv : Value) (h : SD w b i t sv dv) : (loadVar 25 ⟨b, 0, none⟩).run Tryz.prog w = .ok (.agg #[.int .i64 i, .int .i64 t, sv, dv]) w := by
  obtain ⟨h0, h1, h2, h3, _⟩ := h.all
  simp [loadVar, go_sem, h0, h1, h2, h3]
theorem ret_snapD {fn : Func} {p u : Tmp} (h : fn.results = #[.cell p 25, .tmp u]) (tmps : Array Value) (w : World) (b : Nat) (i t : Int) (sv dv : Value) (hp : tmps.getD p undef = .pointer (some ⟨b, 0, none⟩)) (hb : SD w b i t sv dv) :
    (results fn tmps).run Tryz.prog w = .ok (.tuple #[.agg #[.int .i64 i, .int .i64 t, sv, dv], tmps.getD u undef]) w := by
  have ha : (asAddr (.pointer (some ⟨b, 0, none⟩))).run Tryz.prog w = .ok ⟨b, 0, none⟩ w := by simp [asAddr]
  rw [results_cell_tmp h, hp, ha]
  simp only [Result.andThen]
  rw [load25 w b i t sv dv hb]

theorem getD_end {fn : Func} (hfn : fn.results = #[.cell 2 25, .tmp 3]) (bs : List UInt8) (w W1 : World) (tmps : Array Value) (h2 : tmps.getD 2 undef = .pointer (some ⟨w.heap.size, 0, none⟩)) (h3 : tmps.getD 3 undef = .int .i64 21) (hV : SD W1 w.heap.size 0 0 (.slice none 0 0) (.slice none 0 0)) (hg : w.grownBy W1 none) (he : gS bs = none) :
    bodyPost Tryz.prog fn (GotS (gS bs) w) .ret { tmps := tmps, defers := [] } ((((W1.setCell ⟨w.heap.size, 0, none⟩ (.int .i64 0)).setCell ⟨w.heap.size, 1, none⟩ (.int .i64 0)).setCell ⟨w.heap.size, 2, none⟩ (.slice none 0 0)).setCell ⟨w.heap.size, 3, none⟩ (.slice none 0 0)) := by
  refine bodyPost_ret (ret_snapD hfn _ _ w.heap.size 0 0 _ _ h2 (hV.laid 0 0 _ _)) rfl ?_
  rw [h3, he]
  exact ⟨grown_new (grown_new (grown_new (grown_new hg (grown_setCell _ _ _ _) (Nat.le_refl _)) (grown_setCell _ _ _ _) (Nat.le_refl _)) (grown_setCell _ _ _ _) (Nat.le_refl _)) (grown_setCell _ _ _ _) (Nat.le_refl _), rfl⟩
theorem getD_fine {fn : Func} (hfn : fn.results = #[.cell 2 25, .tmp 3]) (bs : List UInt8) (x : Snap) (sv dv : Value) (w W1 : World) (tmps : Array Value) (h2 : tmps.getD 2 undef = .pointer (some ⟨w.heap.size, 0, none⟩)) (h3 : tmps.getD 3 undef = .int .i64 0) (hV : SD W1 w.heap.size 0 0 (.slice none 0 0) (.slice none 0 0)) (hS : OwnI W1 (w.heap.size + 1) sv x.s) (hD : Own W1 (w.heap.size + 1) dv x.d) (hg : w.grownBy W1 none) (he : gS bs = some x) :
    bodyPost Tryz.prog fn (GotS (gS bs) w) .ret { tmps := tmps, defers := [] } ((((W1.setCell ⟨w.heap.size, 0, none⟩ (.int .i64 x.i)).setCell ⟨w.heap.size, 1, none⟩ (.int .i64 x.t)).setCell ⟨w.heap.size, 2, none⟩ sv).setCell ⟨w.heap.size, 3, none⟩ dv) := by
  refine bodyPost_ret (ret_snapD hfn _ _ w.heap.size x.i x.t _ _ h2 (hV.laid x.i x.t _ _)) rfl ?_
  rw [h3, he]
  refine ⟨grown_new (grown_new (grown_new (grown_new hg (grown_setCell _ _ _ _) (Nat.le_refl _)) (grown_setCell _ _ _ _) (Nat.le_refl _)) (grown_setCell _ _ _ _) (Nat.le_refl _)) (grown_setCell _ _ _ _) (Nat.le_refl _), sv, dv, rfl, ?_⟩
  have hs : ∀ (W : World) (i : Nat) (u : Value), OwnI W (w.heap.size + 1) sv x.s → OwnI (W.setCell ⟨w.heap.size, i, none⟩ u) (w.heap.size + 1) sv x.s := fun W i u h => h.kept_low (grown_setCell W w.heap.size i u) (by omega)
  have hd : ∀ (W : World) (i : Nat) (u : Value), Own W (w.heap.size + 1) dv x.d → Own (W.setCell ⟨w.heap.size, i, none⟩ u) (w.heap.size + 1) dv x.d := fun W i u h => h.kept_low (grown_setCell W w.heap.size i u) (by omega)
  exact ⟨(hs _ _ _ (hs _ _ _ (hs _ _ _ (hs _ _ _ hS)))).base (Nat.le_succ _), (hd _ _ _ (hd _ _ _ (hd _ _ _ (hd _ _ _ hD)))).base (Nat.le_succ _)⟩

set_option maxHeartbeats 4000000 in
theorem rget_any (v : Value) (bs : List UInt8) (w : World) (h : Byt w v bs) (hl : bs.length ≤ 100000000) : Calls Tryz.prog 12 #[v] w (GotS (gS bs) w) := by
  obtain ⟨av, cv, rfl⟩ := h.len
  have HB := hid_mk h
  clear h
  have HG : Hid (SD (w.alloc (.cells #[.int .i64 0, .int .i64 0, .slice none 0 0, .slice none 0 0] 25)) w.heap.size 0 0 (.slice none 0 0) (.slice none 0 0) ∧ w.grownBy (w.alloc (.cells #[.int .i64 0, .int .i64 0, .slice none 0 0, .slice none 0 0] 25)) none) := hid_mk ⟨heap_alloc_new _ _, World.grownBy_alloc _ _ _⟩
  go_enter Tryz.func12, Tryz.ntmps12
  go_wp2_with fail
  generalize (w.alloc (.cells #[.int .i64 0, .int .i64 0, .slice none 0 0, .slice none 0 0] 25)) = w0 at *
  refine (F.rscan_any _ bs w0 (HB.out.kept HG.out.2) hl).mono ?_
  rintro e w1 ⟨s, lv, hT, rfl, hr, hg⟩
  obtain ⟨la, lc, rfl⟩ := F.row_shape hr.1
  have H1 := hid_mk (And.intro hT (And.intro hr (grown_trans HG.out.2 hg)))
  have HV := hid_mk (show SD w1 w.heap.size 0 0 (.slice none 0 0) (.slice none 0 0) from HG.out.1.kept hg (by simp))
  clear hT hr hg HG
  obtain ⟨c0, c1, c2, c3, cf⟩ := HV.out.all
  by_cases hs : s.length = 1
  · obtain ⟨x, rfl⟩ := List.length_eq_one_iff.1 hs
    clear hs
    obtain ⟨g, rfl⟩ : ∃ g, la = some ⟨g, 0, none⟩ := by
      rcases H1.out.2.1.1.2 with ⟨e, h0⟩ | ⟨g, cap, cur, e, _⟩
      · cases h0
      · cases e; exact ⟨g, rfl⟩
    obtain ⟨k, d, dv⟩ := x
    have HD := hid_mk (show Own w1 w0.heap.size dv d from H1.out.2.1.2 _ (List.mem_singleton.2 rfl))
    obtain ⟨ad, cd, rfl⟩ := HD.out.len
    have r0 : w1.cell? ⟨g, 0, none⟩ = some (.int .i64 k.toNat) := by rw [H1.out.2.1.1.cellAt 0 (by simp)]; rfl
    have r1 : w1.cell? ⟨g, 1, none⟩ = some (.slice ad d.length cd) := by rw [H1.out.2.1.1.cellAt 1 (by simp)]; rfl
    obtain ⟨en, hen⟩ : ∃ en, F.endOf [⟨k, d, .slice ad d.length cd⟩] = en := ⟨_, rfl⟩
    simp only [hen]
    have HEN := hid_mk hen
    clear hen
    by_cases hw : en = bs.length
    · have hwb : decide (en = bs.length) = true := by simp [hw]
      by_cases hk : (k.toNat : Int) = 5
      · have hkb : ((k.toNat : Int) != 5) = false := by simp [hk]
        have HLd := hid_mk (show d.length ≤ 140737488355328 by have := HEN.out; simp [F.endOf] at this; omega)
        have HD1 := hid_mk (And.intro hw (show k = 5 from UInt8.toNat_inj.1 (by simpa using Int.ofNat.inj (by simpa using hk))))
        go_wp2_with fail
        clear r0 r1 c0 c1 c2 c3 cf
        refine (rnew_any _ d w1 HD.out.byt HLd.out).mono ?_
        rintro e w2 ⟨rb, rfl, hR2, hg2⟩
        have H2 := hid_mk (And.intro hR2 hg2)
        have HLo := hid_mk (show w.heap.size < w1.heap.size ∧ w1.heap.size ≤ rb from ⟨V.Blk.lt HV.out, hR2.lo⟩)
        have HV2 := hid_mk (show SD w2 w.heap.size 0 0 (.slice none 0 0) (.slice none 0 0) from V.Blk.kept HV.out hg2 (by simp))
        clear hR2 hg2
        go_wp2_with fail
        refine (rnum_any _ _ rb ⟨d, 0⟩ w2 H2.out.1).mono ?_
        rintro e w3 ⟨rfl, hR3, hg3, -⟩
        have H3 := hid_mk (And.intro hR3 hg3)
        have HV3 := hid_mk (show SD w3 w.heap.size 0 0 (.slice none 0 0) (.slice none 0 0) from V.Blk.kept HV2.out hg3 (by have := HLo.out; simp; omega))
        clear hR3 hg3
        obtain ⟨n1, hn1⟩ : ∃ n, (readN ⟨d, 0⟩).1 = n := ⟨_, rfl⟩
        obtain ⟨s1, hs1⟩ : ∃ s, (readN ⟨d, 0⟩).2 = s := ⟨_, rfl⟩
        rw [hn1]
        rw [hs1] at H3
        have HQ1 := hid_mk (show (readN ⟨d, 0⟩).1 = n1 ∧ rd1 d = s1 from ⟨hn1, hs1⟩)
        clear hn1 hs1
        have HV4 : Hid (SD (w3.alloc (.cells #[.int .i64 n1, .int .i64 0, .slice none 0 0, .slice none 0 0] 25)) w3.heap.size n1 0 (.slice none 0 0) (.slice none 0 0) ∧ SD (w3.alloc (.cells #[.int .i64 n1, .int .i64 0, .slice none 0 0, .slice none 0 0] 25)) w.heap.size 0 0 (.slice none 0 0) (.slice none 0 0) ∧ Rr (w3.alloc (.cells #[.int .i64 n1, .int .i64 0, .slice none 0 0, .slice none 0 0] 25)) w1.heap.size w2.heap.size rb s1 ∧ w.grownBy (w3.alloc (.cells #[.int .i64 n1, .int .i64 0, .slice none 0 0, .slice none 0 0] 25)) none ∧ w2.heap.size ≤ w3.heap.size) := hid_mk (by
          have hga := World.grownBy_alloc w3 (.cells #[.int .i64 n1, .int .i64 0, .slice none 0 0, .slice none 0 0] 25) none
          have hlo := HLo.out
          exact ⟨heap_alloc_new _ _, V.Blk.kept HV3.out hga (by simp), H3.out.1.kept hga (fun r e => by cases e), grown_trans (grown_new (grown_trans H1.out.2.2 H2.out.2) H3.out.2 (by omega)) hga, H3.out.2.size⟩)
        go_wp2_with fail
        generalize (w3.alloc (.cells #[.int .i64 n1, .int .i64 0, .slice none 0 0, .slice none 0 0] 25)) = w4 at *
        have HXV := hid_mk (show w.heap.size + 1 ≤ w3.heap.size ∧ rb < w3.heap.size ∧ w3.heap.size < w4.heap.size ∧ w2.heap.size ≤ w3.heap.size from ⟨by have := HLo.out; have := H2.out.2.size; have := HV4.out.2.2.2.2; omega, by have := HV4.out.2.2.1.hi; have := HV4.out.2.2.2.2; omega, V.Blk.lt HV4.out.1, HV4.out.2.2.2.2⟩)
        generalize w3.heap.size = xv at *
        clear H3 HV HV2 HV3
        refine (rnum_any _ _ rb s1 w4 HV4.out.2.2.1).mono ?_
        rintro e w5 ⟨rfl, hR5, hg5, -⟩
        obtain ⟨n2, hn2⟩ : ∃ n, (readN s1).1 = n := ⟨_, rfl⟩
        obtain ⟨s2, hs2⟩ : ∃ s, (readN s1).2 = s := ⟨_, rfl⟩
        rw [hn2]
        rw [hs2] at hR5
        have HQ2 := hid_mk (show (readN (rd1 d)).1 = n2 ∧ rd2 d = s2 from by unfold rd2; rw [HQ1.out.2]; exact ⟨hn2, hs2⟩)
        clear hn2 hs2
        have HV5 := hid_mk (show SD w5 xv n1 0 (.slice none 0 0) (.slice none 0 0) ∧ SD w5 w.heap.size 0 0 (.slice none 0 0) (.slice none 0 0) ∧ Rr w5 w1.heap.size w2.heap.size rb s2 ∧ w.grownBy w5 none ∧ w4.heap.size ≤ w5.heap.size from
          ⟨V.Blk.kept HV4.out.1 hg5 (by have := HXV.out; simp; omega), V.Blk.kept HV4.out.2.1 hg5 (by have := HLo.out; simp; omega), hR5, grown_new HV4.out.2.2.2.1 hg5 (by have := HLo.out; omega), hg5.size⟩)
        clear hR5 hg5 HV4
        obtain ⟨x0, x1, x2, x3, xf⟩ := HV5.out.1.all
        go_upto_region 7 with fail
        have HV6 := hid_mk (show SD (w5.setCell ⟨xv, 1, none⟩ (.int .i64 n2)) xv n1 n2 (.slice none 0 0) (.slice none 0 0) ∧ SD (w5.setCell ⟨xv, 1, none⟩ (.int .i64 n2)) w.heap.size 0 0 (.slice none 0 0) (.slice none 0 0) ∧ Rr (w5.setCell ⟨xv, 1, none⟩ (.int .i64 n2)) w1.heap.size w2.heap.size rb s2 ∧ w.grownBy (w5.setCell ⟨xv, 1, none⟩ (.int .i64 n2)) none ∧ w4.heap.size ≤ (w5.setCell ⟨xv, 1, none⟩ (.int .i64 n2)).heap.size by
          have hx := HXV.out
          have g1 := grown_setCell w5 xv 1 (.int .i64 n2)
          exact ⟨V.Blk.set HV5.out.1 1 _, V.Blk.kept HV5.out.2.1 g1 (by simp; omega), HV5.out.2.2.1.kept g1 (fun r e => by cases e; omega), grown_new HV5.out.2.2.2.1 g1 (by omega), Nat.le_trans HV5.out.2.2.2.2 g1.size⟩)
        generalize (w5.setCell ⟨xv, 1, none⟩ (.int .i64 n2)) = w6 at *
        clear x0 x1 x2 x3 xf HV5
        go_wp2_with fail
        refine (rbyt_any _ _ rb s2 w6 HV6.out.2.2.1 (by have := HXV.out; have := HV6.out.2.2.2.2; omega)).mono ?_
        rintro e w7 ⟨v7, rfl, ho7, hR7, hg7⟩
        have HLb3 := hid_mk (show (readB s2).1.length ≤ 140737488355328 from Nat.le_trans (readB_most s2) (by decide))
        obtain ⟨b3, hb3⟩ : ∃ n, (readB s2).1 = n := ⟨_, rfl⟩
        obtain ⟨s3, hs3⟩ : ∃ s, (readB s2).2 = s := ⟨_, rfl⟩
        rw [hb3] at ho7 HLb3
        rw [hs3] at hR7
        have HQ3 := hid_mk (show (readB (rd2 d)).1 = b3 ∧ rd3 d = s3 from by unfold rd3; rw [HQ2.out.2]; exact ⟨hb3, hs3⟩)
        clear hb3 hs3
        obtain ⟨a7, c7, rfl⟩ := ho7.len
        have H7 := hid_mk (show SD w7 xv n1 n2 (.slice none 0 0) (.slice none 0 0) ∧ SD w7 w.heap.size 0 0 (.slice none 0 0) (.slice none 0 0) ∧ Rr w7 w1.heap.size w2.heap.size rb s3 ∧ w.grownBy w7 none ∧ w4.heap.size ≤ w7.heap.size ∧ Byt w7 (.slice a7 b3.length c7) b3 from
          ⟨V.Blk.kept HV6.out.1 hg7 (by have := HXV.out; simp; omega), V.Blk.kept HV6.out.2.1 hg7 (by have := HLo.out; simp; omega), hR7, grown_new HV6.out.2.2.2.1 hg7 (by have := HLo.out; omega), Nat.le_trans HV6.out.2.2.2.2 hg7.size, ho7.byt⟩)
        clear ho7 hR7 hg7 HV6
        go_wp2_with fail
        refine (rgetServers_any _ b3 w7 H7.out.2.2.2.2.2 HLb3.out).mono ?_
        rintro e w8 ⟨a8, c8, rfl, ho8, hg8⟩
        have H8 := hid_mk (show SD w8 xv n1 n2 (.slice none 0 0) (.slice none 0 0) ∧ SD w8 w.heap.size 0 0 (.slice none 0 0) (.slice none 0 0) ∧ Rr w8 w1.heap.size w2.heap.size rb s3 ∧ w.grownBy w8 none ∧ w4.heap.size ≤ w8.heap.size ∧ OwnI w8 w4.heap.size (.slice a8 (gotL b3).length c8) (gotL b3) from
          ⟨V.Blk.kept H7.out.1 hg8 (by simp), V.Blk.kept H7.out.2.1 hg8 (by simp), H7.out.2.2.1.kept hg8 (fun r e => by cases e), grown_trans H7.out.2.2.2.1 hg8, Nat.le_trans H7.out.2.2.2.2.1 hg8.size, ho8.base H7.out.2.2.2.2.1⟩)
        clear ho8 hg8 H7
        have HRt := hid_mk (fun h => got_right (d := b3) h)
        obtain ⟨gl, hgl⟩ : ∃ n, gotL b3 = n := ⟨_, rfl⟩
        obtain ⟨ge, hge⟩ : ∃ n, gotE b3 = n := ⟨_, rfl⟩
        rw [hgl] at H8 HRt ⊢
        rw [hge] at HRt ⊢
        have HQg := hid_mk (show gotL (readB (rd2 d)).1 = gl ∧ gotE (readB (rd2 d)).1 = ge by rw [HQ3.out.1]; exact ⟨hgl, hge⟩)
        clear hgl hge
        obtain ⟨x0, x1, x2, x3, xf⟩ := H8.out.1.all
        go_upto_region 9 with fail
        have H9 := hid_mk (show SD (w8.setCell ⟨xv, 2, none⟩ (.slice a8 gl.length c8)) xv n1 n2 (.slice a8 gl.length c8) (.slice none 0 0) ∧ SD (w8.setCell ⟨xv, 2, none⟩ (.slice a8 gl.length c8)) w.heap.size 0 0 (.slice none 0 0) (.slice none 0 0) ∧ Rr (w8.setCell ⟨xv, 2, none⟩ (.slice a8 gl.length c8)) w1.heap.size w2.heap.size rb s3 ∧ w.grownBy (w8.setCell ⟨xv, 2, none⟩ (.slice a8 gl.length c8)) none ∧ w4.heap.size ≤ (w8.setCell ⟨xv, 2, none⟩ (.slice a8 gl.length c8)).heap.size ∧ OwnI (w8.setCell ⟨xv, 2, none⟩ (.slice a8 gl.length c8)) w4.heap.size (.slice a8 gl.length c8) gl by
          have hx := HXV.out
          have g1 := grown_setCell w8 xv 2 (.slice a8 gl.length c8)
          exact ⟨V.Blk.set H8.out.1 2 _, V.Blk.kept H8.out.2.1 g1 (by simp; omega), H8.out.2.2.1.kept g1 (fun r e => by cases e; omega), grown_new H8.out.2.2.2.1 g1 (by omega), Nat.le_trans H8.out.2.2.2.2.1 g1.size, H8.out.2.2.2.2.2.kept_low g1 (by omega)⟩)
        generalize (w8.setCell ⟨xv, 2, none⟩ (.slice a8 gl.length c8)) = w9 at *
        clear x0 x1 x2 x3 xf H8
        go_wp2_with fail
        refine (rbyt_any _ _ rb s3 w9 H9.out.2.2.1 (by have := HXV.out; have := H9.out.2.2.2.2.1; omega)).mono ?_
        rintro e w10 ⟨v10, rfl, ho10, hR10, hg10⟩
        obtain ⟨b4, hb4⟩ : ∃ n, (readB s3).1 = n := ⟨_, rfl⟩
        obtain ⟨s4, hs4⟩ : ∃ s, (readB s3).2 = s := ⟨_, rfl⟩
        rw [hb4] at ho10
        rw [hs4] at hR10
        have HQ4 := hid_mk (show (readB (rd3 d)).1 = b4 ∧ rd4 d = s4 from by unfold rd4; rw [HQ3.out.2]; exact ⟨hb4, hs4⟩)
        clear hb4 hs4
        obtain ⟨a10, c10, rfl⟩ := ho10.len
        have H10 := hid_mk (show SD w10 xv n1 n2 (.slice a8 gl.length c8) (.slice none 0 0) ∧ SD w10 w.heap.size 0 0 (.slice none 0 0) (.slice none 0 0) ∧ Rr w10 w1.heap.size w2.heap.size rb s4 ∧ w.grownBy w10 none ∧ OwnI w10 w4.heap.size (.slice a8 gl.length c8) gl ∧ Own w10 w4.heap.size (.slice a10 b4.length c10) b4 from
          ⟨V.Blk.kept H9.out.1 hg10 (by have := HXV.out; simp; omega), V.Blk.kept H9.out.2.1 hg10 (by have := HLo.out; simp; omega), hR10, grown_new H9.out.2.2.2.1 hg10 (by have := HLo.out; omega), H9.out.2.2.2.2.2.kept_low hg10 (by have := HXV.out; omega), ho10.base H9.out.2.2.2.2.1⟩)
        clear ho10 hR10 hg10 H9
        obtain ⟨x0, x1, x2, x3, xf⟩ := H10.out.1.all
        go_upto_region 10 with fail
        have H11 := hid_mk (show SD (w10.setCell ⟨xv, 3, none⟩ (.slice a10 b4.length c10)) xv n1 n2 (.slice a8 gl.length c8) (.slice a10 b4.length c10) ∧ SD (w10.setCell ⟨xv, 3, none⟩ (.slice a10 b4.length c10)) w.heap.size 0 0 (.slice none 0 0) (.slice none 0 0) ∧ Rr (w10.setCell ⟨xv, 3, none⟩ (.slice a10 b4.length c10)) w1.heap.size w2.heap.size rb s4 ∧ w.grownBy (w10.setCell ⟨xv, 3, none⟩ (.slice a10 b4.length c10)) none ∧ OwnI (w10.setCell ⟨xv, 3, none⟩ (.slice a10 b4.length c10)) (w.heap.size + 1) (.slice a8 gl.length c8) gl ∧ Own (w10.setCell ⟨xv, 3, none⟩ (.slice a10 b4.length c10)) (w.heap.size + 1) (.slice a10 b4.length c10) b4 by
          have hx := HXV.out
          have g1 := grown_setCell w10 xv 3 (.slice a10 b4.length c10)
          exact ⟨V.Blk.set H10.out.1 3 _, V.Blk.kept H10.out.2.1 g1 (by simp; omega), H10.out.2.2.1.kept g1 (fun r e => by cases e; omega), grown_new H10.out.2.2.2.1 g1 (by omega), (H10.out.2.2.2.2.1.kept_low g1 (by omega)).base (by omega), (H10.out.2.2.2.2.2.kept_low g1 (by omega)).base (by omega)⟩)
        generalize (w10.setCell ⟨xv, 3, none⟩ (.slice a10 b4.length c10)) = w11 at *
        clear x0 x1 x2 x3 xf H10
        have HVAL := hid_mk (show valS d = ⟨n1, n2, gl, b4⟩ by unfold valS; rw [HQ1.out.1, HQ2.out.1, HQg.out.1, HQ4.out.1])
        have HKEY := hid_mk (show okS d = true ↔ ge = 0 ∧ endE s4 = 0 ∧ inB ⟨n1, n2, gl, b4⟩ = true by rw [okS_iff, HQg.out.2, HQ4.out.2, HVAL.out])
        clear HQ1 HQ2 HQ3 HQg HQ4
        obtain ⟨c0, c1, c2, c3, cf⟩ := H11.out.2.1.all
        by_cases hge : ge = 0
        · subst hge
          have hright := HRt.out rfl
          have hgl7 : gl.length ≤ 140737488355328 := by
            unfold rightS at hright
            have := (of_decide_eq_true hright).2.1
            omega
          have HRG := hid_mk hright
          clear hright
          go_wp2_with fail
          refine (rend_any _ _ rb s4 w11 H11.out.2.2.1).mono ?_
          rintro e w11' ⟨rfl, mm, rfl⟩
          have H12 := hid_mk (show SD (w11.drewN mm) xv n1 n2 (.slice a8 gl.length c8) (.slice a10 b4.length c10) ∧ SD (w11.drewN mm) w.heap.size 0 0 (.slice none 0 0) (.slice none 0 0) ∧ w.grownBy (w11.drewN mm) none ∧ OwnI (w11.drewN mm) (w.heap.size + 1) (.slice a8 gl.length c8) gl ∧ Own (w11.drewN mm) (w.heap.size + 1) (.slice a10 b4.length c10) b4 from ⟨V.Blk.kept H11.out.1 (grown_drewN _ _ none) (by simp), V.Blk.kept H11.out.2.1 (grown_drewN _ _ none) (by simp), grown_trans H11.out.2.2.2.1 (grown_drewN _ _ none), H11.out.2.2.2.2.1.kept (grown_drewN _ _ none), H11.out.2.2.2.2.2.kept (grown_drewN _ _ none) (.inl rfl)⟩)
          generalize w11.drewN mm = w12 at *
          clear c0 c1 c2 c3 cf H11
          obtain ⟨c0, c1, c2, c3, cf⟩ := H12.out.2.1.all
          obtain ⟨ee, hee⟩ : ∃ n, endE s4 = n := ⟨_, rfl⟩
          rw [hee]
          have HEE := hid_mk hee
          clear hee
          by_cases hz : ee = 0
          · subst hz
            obtain ⟨y0, y1, y2, y3, _⟩ := H12.out.1.all
            go_wp2_with fail
            clear c0 c1 c2 c3 cf y0 y1 y2 y3
            have HRi := hid_mk (right_doc ⟨n1, n2, gl, b4⟩ (.slice a8 gl.length c8) (.slice a10 b4.length c10) w12 ⟨H12.out.2.2.2.1.ints, H12.out.2.2.2.2.byt⟩ hgl7)
            unfold snapV at HRi
            refine HRi.out.mono ?_
            rintro e w13 ⟨rfl, hg13⟩
            have H13 := hid_mk (show SD w13 xv n1 n2 (.slice a8 gl.length c8) (.slice a10 b4.length c10) ∧ SD w13 w.heap.size 0 0 (.slice none 0 0) (.slice none 0 0) ∧ w.grownBy w13 none ∧ OwnI w13 (w.heap.size + 1) (.slice a8 gl.length c8) gl ∧ Own w13 (w.heap.size + 1) (.slice a10 b4.length c10) b4 from ⟨V.Blk.kept H12.out.1 hg13 (by simp), V.Blk.kept H12.out.2.1 hg13 (by simp), grown_trans H12.out.2.2.1 hg13, H12.out.2.2.2.1.kept hg13, H12.out.2.2.2.2.kept hg13 (.inl rfl)⟩)
            clear hg13 H12 HRi
            rw [show mayS ⟨n1, n2, gl, b4⟩ = inB ⟨n1, n2, gl, b4⟩ by unfold mayS; rw [HRG.out, Bool.true_and]]
            obtain ⟨c0, c1, c2, c3, cf⟩ := H13.out.2.1.all
            obtain ⟨y0, y1, y2, y3, _⟩ := H13.out.1.all
            cases hm : inB ⟨n1, n2, gl, b4⟩ with
            | true =>
              have HE2 := hid_mk (show gS bs = some ⟨n1, n2, gl, b4⟩ by
                rw [← HVAL.out]
                exact gS_ok H1.out.1 (by rw [HEN.out]; exact HD1.out.1) HD1.out.2 (HKEY.out.2 ⟨by trivial, HEE.out, hm⟩))
              clear hm
              go_wp2_with fail
              exact getD_fine rfl bs ⟨n1, n2, gl, b4⟩ _ _ w w13 _ rfl rfl H13.out.2.1 H13.out.2.2.2.1 H13.out.2.2.2.2 H13.out.2.2.1 HE2.out
            | false =>
              have HE2 := hid_mk (show gS bs = none from gS_bad H1.out.1 (fun x e _ _ => by
                cases e
                cases ho : okS d with
                | false => rfl
                | true => rw [(HKEY.out.1 ho).2.2] at hm; cases hm))
              clear hm
              go_wp2_with fail
              exact getD_end rfl bs w w13 _ rfl rfl H13.out.2.1 H13.out.2.2.1 HE2.out
          · have hzb : ((ee : Int) != 0) = true := by simp [hz]
            have HE2 := hid_mk (show gS bs = none from gS_bad H1.out.1 (fun x e _ _ => by
              cases e
              cases ho : okS d with
              | false => rfl
              | true => exact absurd (HEE.out.symm.trans (HKEY.out.1 ho).2.1) hz))
            go_wp2_with fail
            exact getD_end rfl bs w w12 _ rfl rfl H12.out.2.1 H12.out.2.2.1 HE2.out
        · have hgb : (ge != 0) = true := by simp [hge]
          have HE2 := hid_mk (show gS bs = none from gS_bad H1.out.1 (fun x e _ _ => by
            cases e
            cases ho : okS d with
            | false => rfl
            | true => exact absurd (HKEY.out.1 ho).1 hge))
          go_wp2_with fail
          exact getD_end rfl bs w w11 _ rfl rfl H11.out.2.1 H11.out.2.2.2.1 HE2.out
      · have hkb : ((k.toNat : Int) != 5) = true := by simp [hk]
        have HE2 := hid_mk (show gS bs = none from gS_bad H1.out.1 (fun x e _ h2 => by cases e; exact absurd (show (k.toNat : Int) = 5 by rw [show k = 5 from h2]; rfl) hk))
        go_wp2_with fail
        exact getD_end rfl bs w w1 _ rfl rfl HV.out H1.out.2.2 HE2.out
    · have hwb : decide (en = bs.length) = false := by simp [hw]
      have HE2 := hid_mk (show gS bs = none from gS_bad H1.out.1 (fun x e h1 _ => by rw [HEN.out] at h1; exact absurd h1 hw))
      go_wp2_with fail
      exact getD_end rfl bs w w1 _ rfl rfl HV.out H1.out.2.2 HE2.out
  · have hn : ((s.length : Int) != 1) = true := by simp; omega
    have HE := hid_mk (show gS bs = none from gS_bad H1.out.1 (fun x e => by rw [e] at hs; simp at hs))
    clear hs
    obtain ⟨en, hen⟩ : ∃ en, F.endOf s = en := ⟨_, rfl⟩
    simp only [hen]
    clear hen
    by_cases hw : en = bs.length
    · have hwb : decide (en = bs.length) = true := by simp [hw]
      go_wp2_with fail
      exact getD_end rfl bs w w1 _ rfl rfl HV.out H1.out.2.2 HE.out
    · have hwb : decide (en = bs.length) = false := by simp [hw]
      go_wp2_with fail
      exact getD_end rfl bs w w1 _ rfl rfl HV.out H1.out.2.2 HE.out
end Go.Proofs.YtmlppjmpoanlkaaGreatDoor.W

/- snaps: what is got of bytes has these bytes; Put and Get in one form. -/
namespace Go.Proofs.YtmlppjmpoanlkaaGreatDoor.W
open Go.RowKit Go.Maps
set_option linter.unusedVariables false
set_option linter.unusedSimpArgs false
set_option maxRecDepth 100000

theorem le4_len (n : Nat) : (F.le4 n).length = 4 := by simp [F.le4]
theorem le4_num (s : List UInt8) (h : s.length = 4) : F.le4 (F.num4 s) = s := by
  refine F.num4_inj _ _ (le4_len _) h ?_
  have := F.num4_le4 (F.num4 s) (F.num4_lt s) []
  rwa [List.append_nil] at this
theorem firstB_get {l : List UInt8} {k : UInt8} {d : List UInt8} (h : F.firstB l = some (k, d)) : l = F.putB k d ++ l.drop (d.length + 9) := by
  obtain ⟨hn, hle, _⟩ := F.firstB_len h
  unfold F.firstB at h
  split at h
  · rename_i hok
    obtain ⟨h9, h1, h2, h3⟩ := hok
    injection h with h
    injection h with hk hd
    have e1 : l.take 4 = F.le4 d.length := by
      rw [hn, ← F.num4_take l 4 (Nat.le_refl _)]
      exact (le4_num _ (by rw [List.length_take]; omega)).symm
    have e3 : (l.take (F.num4 l + 9)).drop 8 = k :: d := by
      have hl : 8 < (l.take (F.num4 l + 9)).length := by rw [List.length_take]; omega
      rw [List.drop_eq_getElem_cons hl, hd]
      congr 1
      rw [List.getElem_take, ← hk, List.getD_eq_getElem?_getD, List.getElem?_eq_getElem (by omega)]
      rfl
    have e2 : (l.drop 4).take 4 = F.le4 (F.crcB (k :: d)).toNat := by
      rw [← e3, ← h3, ← F.num4_take (l.drop 4) 4 (Nat.le_refl _)]
      exact (le4_num _ (by rw [List.length_take, List.length_drop]; omega)).symm
    have e4 : l.take (d.length + 9) = F.putB k d := by
      have : l.take (d.length + 9) = l.take 4 ++ ((l.drop 4).take 4 ++ (l.take (d.length + 9)).drop 8) := by
        apply List.ext_getElem?
        intro i
        rcases Nat.lt_or_ge i 4 with h | h
        · rw [List.getElem?_append_left (by rw [List.length_take]; omega), List.getElem?_take, List.getElem?_take, if_pos (by omega), if_pos h]
        · rw [List.getElem?_append_right (by rw [List.length_take]; omega), List.length_take, Nat.min_eq_left (by omega)]
          rcases Nat.lt_or_ge i 8 with h' | h'
          · rw [List.getElem?_append_left (by rw [List.length_take, List.length_drop]; omega), List.getElem?_take, List.getElem?_take, if_pos (by omega), if_pos (by omega), List.getElem?_drop]
            congr 1; omega
          · rw [List.getElem?_append_right (by rw [List.length_take, List.length_drop]; omega), List.length_take, List.length_drop, List.getElem?_drop]
            congr 1; omega
      rw [this, e1, e2, hn, e3]
      simp [F.putB, hn]
    rw [← e4, List.take_append_drop]
  · cases h

theorem gS_get {bs : List UInt8} {x : Snap} (h : gS bs = some x) : mayS x = true ∧ snapB x = bs := by
  unfold gS at h
  split at h
  · rename_i k d n hs
    split at h
    · rename_i hc
      obtain ⟨h1, h2, h3⟩ := hc
      injection h with e1
      obtain ⟨o1, o2, o3⟩ := okS_iff.1 h3
      have hf : F.firstB bs = some (k, d) := by
        cases hf : F.firstB bs with
        | none => rw [F.scanB_none hf] at hs; cases hs
        | some p =>
          obtain ⟨k', d'⟩ := p
          rw [F.scanB_some hf] at hs
          rw [(List.cons.inj (Prod.mk.inj hs).1).1]
      have hb := firstB_get hf
      have hlen := F.scanB_some hf
      rw [hs] at hlen
      have hl1 := (Prod.mk.inj hlen).1
      have hl2 := (Prod.mk.inj hlen).2
      have hnil : bs.drop (d.length + 9) = [] := by
        have hl1 := (List.cons.inj hl1).2
        have : (F.scanB (bs.drop (d.length + 9))).2 = 0 := by
          cases hx : F.firstB (bs.drop (d.length + 9)) with
          | none => rw [F.scanB_none hx]
          | some p =>
            obtain ⟨k', d'⟩ := p
            rw [F.scanB_some hx] at hl1
            cases hl1
        rw [this, h1] at hl2
        exact List.drop_eq_nil_of_le (by omega)
      rw [hnil, List.append_nil] at hb
      obtain ⟨z1, z2⟩ := endE_ok o2
      obtain ⟨y1, y2, y3⟩ := readB_get (s := rd3 d) z1
      obtain ⟨x1, x2, x3⟩ := readB_get (s := rd2 d) y1
      obtain ⟨u1, u2, u3⟩ := readN_get (s := rd1 d) x1
      obtain ⟨v1, v2, v3⟩ := readN_get (s := ⟨d, 0⟩) u1
      have y2' : (rd3 d).rest = txtB (readB (rd3 d)).1 ++ (rd4 d).rest := y2
      have x2' : (rd2 d).rest = txtB (readB (rd2 d)).1 ++ (rd3 d).rest := x2
      have u2' : (rd1 d).rest = numB (readN (rd1 d)).1 ++ (rd2 d).rest := u2
      have v2' : d = numB (readN ⟨d, 0⟩).1 ++ (rd1 d).rest := v2
      rw [z2, List.append_nil] at y2'
      rw [y2'] at x2'
      rw [x2'] at u2'
      rw [u2'] at v2'
      have hr := got_right o1
      have hgo : getOk (readB (rd2 d)).1 = true := by
        unfold gotE at o1
        by_cases ho : getOk (readB (rd2 d)).1 = true
        · exact ho
        · rw [if_neg ho] at o1; cases o1
      have hsb : srvB (gotL (readB (rd2 d)).1) = (readB (rd2 d)).1 := by
        refine (getS_get (b := (readB (rd2 d)).1) (l := gotL (readB (rd2 d)).1) ?_).2
        rw [(got_ok hgo).1]
        unfold getS
        rw [if_pos hgo]
      rw [← e1]
      refine ⟨mayS_iff.2 ⟨hr, o3⟩, ?_⟩
      have hin : inS (valS d) = d := by
        unfold inS valS
        simp only [Int.toNat_natCast]
        rw [hsb]
        exact v2'.symm
      unfold snapB
      rw [hin, hb, h2]
    · cases h
  · cases h

/-- Put's bytes, and its code. -/
def putSL (x : Snap) : List UInt8 := if mayS x = true then snapB x else []
def putSE (x : Snap) : Int := if mayS x = true then 0 else 1
def PutSP (x : Snap) (w : World) (e : Ending) (w' : World) : Prop := ∃ a c, e = .returned (.tuple #[.slice a (putSL x).length c, .int .i64 (putSE x)]) ∧ Byt w' (.slice a (putSL x).length c) (putSL x) ∧ w.grownBy w' none
theorem putS_any (x : Snap) (sv dv : Value) (w : World) (h : SnapAt w sv dv x) (ht : F.Tab w) : Calls Tryz.prog 9 #[snapV x sv dv] w (PutSP x w) := by
  unfold PutSP putSL putSE
  by_cases hm : mayS x = true
  · simp only [if_pos hm]
    refine (putS_ok x sv dv w h hm ht).mono ?_
    rintro e w' ⟨a, c, rfl, ho, hg⟩
    exact ⟨a, c, rfl, ho.byt, hg⟩
  · simp only [if_neg hm]
    refine (putS_bad x sv dv w h (by simpa using hm)).mono ?_
    rintro e w' ⟨rfl, hg⟩
    exact ⟨none, 0, rfl, Byt.nil _, hg⟩
theorem rputS_any (x : Snap) (sv dv : Value) (w : World) (h : SnapAt w sv dv x) (hl : x.s.length ≤ 140737488355328) : Calls Tryz.prog 10 #[snapV x sv dv] w (PutSP x w) := by
  unfold PutSP putSL putSE
  by_cases hm : mayS x = true
  · simp only [if_pos hm]
    refine (rput_ok x sv dv w h hm hl).mono ?_
    rintro e w' ⟨a, c, rfl, hb, hg⟩
    exact ⟨a, c, rfl, hb, hg⟩
  · simp only [if_neg hm]
    refine (rput_bad x sv dv w h (by simpa using hm) hl).mono ?_
    rintro e w' ⟨rfl, hg⟩
    exact ⟨none, 0, rfl, Byt.nil _, hg⟩
/-- What Get tells, and its code. -/
def getX (bs : List UInt8) : Snap := (gS bs).getD ⟨0, 0, [], []⟩
def getC (bs : List UInt8) : Int := if (gS bs).isSome then 0 else 21
def GetSP (bs : List UInt8) (w : World) (e : Ending) (w' : World) : Prop := ∃ sv dv, e = .returned (.tuple #[snapV (getX bs) sv dv, .int .i64 (getC bs)]) ∧ SnapAt w' sv dv (getX bs) ∧ w.grownBy w' none
theorem got_any {bs : List UInt8} {w : World} {e : Ending} {w' : World} (h : GotS (gS bs) w e w') : GetSP bs w e w' := by
  unfold GetSP getX getC
  obtain ⟨hg, h⟩ := h
  cases ho : gS bs with
  | some x =>
    rw [ho] at h
    obtain ⟨sv, dv, rfl, h1, h2⟩ := h
    exact ⟨sv, dv, rfl, ⟨h1.ints, h2.byt⟩, hg⟩
  | none =>
    rw [ho] at h
    subst h
    exact ⟨.slice none 0 0, .slice none 0 0, rfl, ⟨IntsR.nil _, Byt.nil _⟩, hg⟩
theorem getX_len (bs : List UInt8) : (getX bs).s.length ≤ 7 := by
  unfold getX
  cases ho : gS bs with
  | some x =>
    have := (mayS_iff.1 (gS_get ho).1).1
    unfold rightS at this
    exact (of_decide_eq_true this).2.1
  | none => simp

end Go.Proofs.YtmlppjmpoanlkaaGreatDoor.W

/- SnapsBytes: the walk. -/
namespace Go.Proofs.YtmlppjmpoanlkaaGreatDoor.W
open Go.RowKit Go.Maps
set_option linter.unusedVariables false
set_option linter.unusedSimpArgs false
set_option maxRecDepth 100000

theorem text_same (l : List UInt8) : (l == (⟨l.toArray⟩ : ByteArray).toList) = true := by simp [go_sem]
/-- What lies in memory at the law's comparisons. -/
structure SW (w W : World) (p q yb zb : Nat) (x Y : Snap) (sv dv sv' dv' ysv ydv zsv zdv va vc : Value) (A : List UInt8) : Prop where
  s : SD W p x.i x.t sv dv
  o : SB W q x.i x.t sv' dv'
  y : SB W yb Y.i Y.t ysv ydv
  z : SD W zb Y.i Y.t zsv zdv
  sm : SnapAt W sv dv x
  ao : SnapAt W sv' dv' x
  ay : SnapAt W ysv ydv Y
  az : SnapAt W zsv zdv Y
  a : Byt W va A
  c : Byt W vc A
  gr : w.grownBy W none
theorem SW.kept {w W W' : World} {p q yb zb : Nat} {x Y : Snap} {sv dv sv' dv' ysv ydv zsv zdv va vc : Value} {A : List UInt8} (h : SW w W p q yb zb x Y sv dv sv' dv' ysv ydv zsv zdv va vc A) (hg : W.grownBy W' none) : SW w W' p q yb zb x Y sv dv sv' dv' ysv ydv zsv zdv va vc A :=
  ⟨V.Blk.kept h.s hg (by simp), V.Blk.kept h.o hg (by simp), V.Blk.kept h.y hg (by simp), V.Blk.kept h.z hg (by simp), h.sm.kept hg, h.ao.kept hg, h.ay.kept hg, h.az.kept hg, h.a.kept hg, h.c.kept hg, grown_trans h.gr hg⟩

set_option maxHeartbeats 8000000 in
theorem snapsBytes_walk (x : Snap) (sv dv v : Value) (bs : List UInt8) (w : World) (hS : SnapAt w sv dv x) (h : Byt w v bs) (ht : F.Tab w) (hp : Pw w) (hns : x.s.length ≤ 17592186044416) (hnd : x.d.length ≤ 140737488355328) (hl : bs.length ≤ 100000000) : Calls Tryz.prog 3 #[snapV x sv dv, v] w fun e w' => e = .returned (.bool true) ∧ w.grownBy w' none := by
  obtain ⟨av, cv, rfl⟩ := h.len
  obtain ⟨sa, sc, rfl⟩ := hS.s.len
  obtain ⟨da, dc, rfl⟩ := hS.d.len
  have HB := hid_mk h
  have HT := hid_mk (And.intro ht hp)
  have HG : Hid (SD (w.alloc (.cells #[.int .i64 x.i, .int .i64 x.t, .slice sa x.s.length sc, .slice da x.d.length dc] 25)) w.heap.size x.i x.t (.slice sa x.s.length sc) (.slice da x.d.length dc) ∧ w.grownBy (w.alloc (.cells #[.int .i64 x.i, .int .i64 x.t, .slice sa x.s.length sc, .slice da x.d.length dc] 25)) none) := hid_mk ⟨heap_alloc_new _ _, World.grownBy_alloc _ _ _⟩
  have HS := hid_mk hS
  clear h ht hp hS
  unfold snapV
  go_enter Tryz.func3, Tryz.ntmps3
  go_wp2_with fail
  generalize (w.alloc (.cells #[.int .i64 x.i, .int .i64 x.t, .slice sa x.s.length sc, .slice da x.d.length dc] 25)) = w0 at *
  refine (F.lent_any _ bs w0 (HB.out.kept HG.out.2) (by omega)).mono ?_
  rintro e w1 ⟨g, cap, rfl, ho1, hg1⟩
  have H1 := hid_mk (show F.Own w1 w0.heap.size (.slice (some ⟨g, 0, none⟩) (bs.length + 2) cap) (bs ++ [201, 202]) ∧ SD w1 w.heap.size x.i x.t (.slice sa x.s.length sc) (.slice da x.d.length dc) ∧ SnapAt w1 (.slice sa x.s.length sc) (.slice da x.d.length dc) x ∧ w.grownBy w1 none from ⟨ho1, V.Blk.kept HG.out.1 hg1 (by simp), HS.out.kept (grown_trans HG.out.2 hg1), grown_trans HG.out.2 hg1⟩)
  clear ho1 hg1 HG
  generalize w0.heap.size = B0 at *
  obtain ⟨c0, c1, c2, c3, -⟩ := H1.out.2.1.all
  generalize hpp : w.heap.size = p at *
  clear hpp
  have HO := hid_mk (own_any x (.slice sa x.s.length sc) (.slice da x.d.length dc) w1 H1.out.2.2.1 hns hnd)
  unfold snapV at HO
  go_wp2_with fail
  clear c0 c1 c2 c3
  refine HO.out.mono ?_
  rintro e w2 ⟨sv2, dv2, rfl, hs2, hg2⟩
  obtain ⟨sa2, sc2, rfl⟩ := hs2.s.len
  obtain ⟨da2, dc2, rfl⟩ := hs2.d.len
  have HA2 : Hid (SB (w2.alloc (.cells #[.int .i64 x.i, .int .i64 x.t, .slice sa2 x.s.length sc2, .slice da2 x.d.length dc2] 27)) w2.heap.size x.i x.t (.slice sa2 x.s.length sc2) (.slice da2 x.d.length dc2) ∧ w2.grownBy (w2.alloc (.cells #[.int .i64 x.i, .int .i64 x.t, .slice sa2 x.s.length sc2, .slice da2 x.d.length dc2] 27)) none) := hid_mk ⟨heap_alloc_new _ _, World.grownBy_alloc _ _ _⟩
  have H2 := hid_mk (And.intro hs2 hg2)
  clear hs2 hg2 HO
  go_upto_region 3 with fail
  generalize (w2.alloc (.cells #[.int .i64 x.i, .int .i64 x.t, .slice sa2 x.s.length sc2, .slice da2 x.d.length dc2] 27)) = w3 at *
  generalize w2.heap.size = q at *
  have H3 := hid_mk (show SB w3 q x.i x.t (.slice sa2 x.s.length sc2) (.slice da2 x.d.length dc2) ∧ SnapAt w3 (.slice sa2 x.s.length sc2) (.slice da2 x.d.length dc2) x ∧ w1.grownBy w3 none from ⟨HA2.out.1, H2.out.1.kept HA2.out.2, grown_trans H2.out.2 HA2.out.2⟩)
  clear HA2 H2
  obtain ⟨c0, c1, c2, c3, -⟩ := H3.out.1.all
  have HP := hid_mk (putS_any x (.slice sa2 x.s.length sc2) (.slice da2 x.d.length dc2) w3 H3.out.2.1 (HT.out.1.kept (grown_trans H1.out.2.2.2 H3.out.2.2)))
  unfold snapV at HP
  go_wp2_with fail
  clear c0 c1 c2 c3
  refine HP.out.mono ?_
  rintro e w4 ⟨a4, c4, rfl, hb4, hg4⟩
  obtain ⟨A, hA⟩ : ∃ A, A = putSL x := ⟨_, rfl⟩
  obtain ⟨er, her⟩ : ∃ er, er = putSE x := ⟨_, rfl⟩
  have HAE := hid_mk (And.intro hA her)
  rw [← hA] at hb4 ⊢
  rw [← her]
  have H4 := hid_mk (show Byt w4 (.slice a4 A.length c4) A ∧ SD w4 p x.i x.t (.slice sa x.s.length sc) (.slice da x.d.length dc) ∧ SnapAt w4 (.slice sa x.s.length sc) (.slice da x.d.length dc) x ∧ w1.grownBy w4 none from ⟨hb4, V.Blk.kept H1.out.2.1 (grown_trans H3.out.2.2 hg4) (by simp), H1.out.2.2.1.kept (grown_trans H3.out.2.2 hg4), grown_trans H3.out.2.2 hg4⟩)
  have H34 := hid_mk hg4
  clear hA her hb4 hg4 HP
  obtain ⟨c0, c1, c2, c3, -⟩ := H4.out.2.1.all
  have HP := hid_mk (rputS_any x (.slice sa x.s.length sc) (.slice da x.d.length dc) w4 H4.out.2.2.1 (by omega))
  unfold snapV PutSP at HP
  rw [← HAE.out.1, ← HAE.out.2] at HP
  go_wp2_with fail
  clear c0 c1 c2 c3
  refine HP.out.mono ?_
  rintro e w5 ⟨a5, c5, rfl, hb5, hg5⟩
  have H5 := hid_mk (show Byt w5 (.slice a5 A.length c5) A ∧ w4.grownBy w5 none ∧ w1.grownBy w5 none from ⟨hb5, hg5, grown_trans H4.out.2.2.2 hg5⟩)
  clear hb5 hg5 HP
  have HL1 := hid_mk (F.lent_byt (F.Own.kept H1.out.1 H5.out.2.2 (.inl rfl)))
  have HGt := hid_mk (getS_own _ bs w5 HL1.out.1 (HT.out.1.kept (grown_trans H1.out.2.2.2 H5.out.2.2)) hl)
  go_wp2_with fail
  refine HGt.out.mono ?_
  intro e w6 hgot
  obtain ⟨ysv, ydv, rfl, hy, hg6⟩ := got_any hgot
  clear hgot HGt
  obtain ⟨Y, hY⟩ : ∃ Y, Y = getX bs := ⟨_, rfl⟩
  obtain ⟨gc, hgc⟩ : ∃ gc, gc = getC bs := ⟨_, rfl⟩
  have HYG := hid_mk (And.intro hY hgc)
  have HY7 := hid_mk (show Y.s.length ≤ 7 by rw [hY]; exact getX_len bs)
  rw [← hY] at hy ⊢
  rw [← hgc]
  clear hY hgc
  obtain ⟨ya, yc, rfl⟩ := hy.s.len
  obtain ⟨yda, ydc, rfl⟩ := hy.d.len
  unfold snapV
  have HA6 : Hid (SB (w6.alloc (.cells #[.int .i64 Y.i, .int .i64 Y.t, .slice ya Y.s.length yc, .slice yda Y.d.length ydc] 27)) w6.heap.size Y.i Y.t (.slice ya Y.s.length yc) (.slice yda Y.d.length ydc) ∧ w6.grownBy (w6.alloc (.cells #[.int .i64 Y.i, .int .i64 Y.t, .slice ya Y.s.length yc, .slice yda Y.d.length ydc] 27)) none) := hid_mk ⟨heap_alloc_new _ _, World.grownBy_alloc _ _ _⟩
  have H6 := hid_mk (And.intro hy hg6)
  clear hy hg6
  go_upto_region 6 with fail
  generalize (w6.alloc (.cells #[.int .i64 Y.i, .int .i64 Y.t, .slice ya Y.s.length yc, .slice yda Y.d.length ydc] 27)) = w7 at *
  generalize w6.heap.size = yb at *
  have H7 := hid_mk (show SB w7 yb Y.i Y.t (.slice ya Y.s.length yc) (.slice yda Y.d.length ydc) ∧ SnapAt w7 (.slice ya Y.s.length yc) (.slice yda Y.d.length ydc) Y ∧ w5.grownBy w7 none from ⟨HA6.out.1, H6.out.1.kept HA6.out.2, grown_trans H6.out.2 HA6.out.2⟩)
  clear HA6 H6
  have HGt := hid_mk (rget_any (.slice av bs.length cv) bs w7 (HB.out.kept (grown_trans H1.out.2.2.2 (grown_trans H5.out.2.2 H7.out.2.2))) hl)
  go_wp2_with fail
  refine HGt.out.mono ?_
  intro e w8 hgot
  obtain ⟨zsv, zdv, rfl, hz, hg8⟩ := got_any hgot
  clear hgot HGt
  rw [← HYG.out.1] at hz ⊢
  rw [← HYG.out.2]
  obtain ⟨za, zc, rfl⟩ := hz.s.len
  obtain ⟨zda, zdc, rfl⟩ := hz.d.len
  unfold snapV
  have HA8 : Hid (SD (w8.alloc (.cells #[.int .i64 Y.i, .int .i64 Y.t, .slice za Y.s.length zc, .slice zda Y.d.length zdc] 25)) w8.heap.size Y.i Y.t (.slice za Y.s.length zc) (.slice zda Y.d.length zdc) ∧ w8.grownBy (w8.alloc (.cells #[.int .i64 Y.i, .int .i64 Y.t, .slice za Y.s.length zc, .slice zda Y.d.length zdc] 25)) none) := hid_mk ⟨heap_alloc_new _ _, World.grownBy_alloc _ _ _⟩
  have H8 := hid_mk (And.intro hz hg8)
  clear hz hg8
  go_upto_region 7 with fail
  generalize (w8.alloc (.cells #[.int .i64 Y.i, .int .i64 Y.t, .slice za Y.s.length zc, .slice zda Y.d.length zdc] 25)) = w9 at *
  generalize w8.heap.size = zb at *
  have G79 := grown_trans H8.out.2 HA8.out.2
  have G59 := grown_trans H7.out.2.2 G79
  have G49 := grown_trans H5.out.2.1 G59
  have G39 := grown_trans H34.out G49
  have G19 := grown_trans H5.out.2.2 G59
  have S9 := hid_mk (show SW w w9 p q yb zb x Y (.slice sa x.s.length sc) (.slice da x.d.length dc) (.slice sa2 x.s.length sc2) (.slice da2 x.d.length dc2) (.slice ya Y.s.length yc) (.slice yda Y.d.length ydc) (.slice za Y.s.length zc) (.slice zda Y.d.length zdc) (.slice a4 A.length c4) (.slice a5 A.length c5) A from
    ⟨V.Blk.kept H4.out.2.1 G49 (by simp), V.Blk.kept H3.out.1 G39 (by simp), V.Blk.kept H7.out.1 G79 (by simp), HA8.out.1, H4.out.2.2.1.kept G49, H3.out.2.1.kept G39, H7.out.2.1.kept G79, H8.out.1.kept HA8.out.2, H4.out.1.kept G49, H5.out.1.kept G59, grown_trans H1.out.2.2.2 G19⟩)
  have HOw := hid_mk (F.Own.kept H1.out.1 G19 (.inl rfl))
  have hE : Hid ((er = 0 ∧ mayS x = true ∧ A = snapB x) ∨ er = 1) := hid_mk (by
    rw [HAE.out.1, HAE.out.2]
    unfold putSL putSE
    by_cases hm : mayS x = true
    · rw [if_pos hm, if_pos hm]; exact .inl ⟨rfl, hm, rfl⟩
    · rw [if_neg hm, if_neg hm]; exact .inr rfl)
  have hC : Hid ((gc = 0 ∧ mayS Y = true ∧ snapB Y = bs) ∨ gc = 21) := hid_mk (by
    rw [HYG.out.1, HYG.out.2]
    unfold getX getC
    cases ho : gS bs with
    | some y => exact .inl ⟨rfl, gS_get ho⟩
    | none => exact .inr rfl)
  clear G79 G59 G49 G39 G19 H1 H3 H34 H4 H5 H7 H8 HA8 HAE HYG HL1 HS
  have HSm := hid_mk (same_yes Y (.slice ya Y.s.length yc) (.slice yda Y.d.length ydc) (.slice za Y.s.length zc) (.slice zda Y.d.length zdc) w9 S9.out.ay S9.out.az (by have := HY7.out; omega))
  have HSx := hid_mk (fun W (hW : SW w W p q yb zb x Y (.slice sa x.s.length sc) (.slice da x.d.length dc) (.slice sa2 x.s.length sc2) (.slice da2 x.d.length dc2) (.slice ya Y.s.length yc) (.slice yda Y.d.length ydc) (.slice za Y.s.length zc) (.slice zda Y.d.length zdc) (.slice a4 A.length c4) (.slice a5 A.length c5) A) => same_yes x (.slice sa2 x.s.length sc2) (.slice da2 x.d.length dc2) (.slice sa x.s.length sc) (.slice da x.d.length dc) W hW.ao hW.sm (by omega))
  unfold snapV at HSm HSx
  obtain ⟨y0, y1, y2, y3, -⟩ := S9.out.y.all
  obtain ⟨z0, z1, z2, z3, -⟩ := S9.out.z.all
  have t2 := S9.out.a.text
  have t3 := S9.out.c.text
  have tq := text_same A
  rcases hE.out with ⟨rfl, hm, hA⟩ | rfl
  · have HE := hid_mk (And.intro hm hA)
    clear hm hA hE
    rcases hC.out with ⟨rfl, hm, hA⟩ | rfl
    · have HCC := hid_mk (And.intro hm hA)
      clear hm hA hC
      go_wp2_with (go_at_call 13; refine (num_any _ _).mono ?_; rintro e w' ⟨rfl, hw⟩; rw [hw]; clear hw)
      refine HSm.out.mono ?_
      rintro e w10 ⟨rfl, hg10⟩
      have S10 := hid_mk (S9.out.kept hg10)
      have HO10 := hid_mk (F.Own.kept HOw.out hg10 (.inl rfl))
      clear hg10 y0 y1 y2 y3 z0 z1 z2 z3 t2 t3 HSm S9 HOw tq
      obtain ⟨o0, o1, o2, o3, -⟩ := S10.out.o.all
      obtain ⟨s0, s1, s2, s3, -⟩ := S10.out.s.all
      go_wp2_with (go_at_call 13; refine (num_any _ _).mono ?_; rintro e w' ⟨rfl, hw⟩; rw [hw]; clear hw)
      refine (HSx.out w10 S10.out).mono ?_
      rintro e w11 ⟨rfl, hg11⟩
      have S11 := hid_mk (S10.out.kept hg11)
      have HO11 := hid_mk (F.Own.kept HO10.out hg11 (.inl rfl))
      clear hg11 o0 o1 o2 o3 s0 s1 s2 s3 S10 HO10 HSx
      go_wp2_with (go_at_call 13; refine (num_any _ _).mono ?_; rintro e w' ⟨rfl, hw⟩; rw [hw]; clear hw)
      refine (F.stays_any B0 g cap bs (.slice av bs.length cv) w11 HO11.out (HB.out.kept S11.out.gr) (by omega)).mono ?_
      rintro e w12 ⟨rfl, hg12⟩
      have S12 := hid_mk (S11.out.kept hg12)
      clear hg12 S11 HO11
      obtain ⟨y0, y1, y2, y3, -⟩ := S12.out.y.all
      go_wp2_with (go_at_call 13; refine (num_any _ _).mono ?_; rintro e w' ⟨rfl, hw⟩; rw [hw]; clear hw)
      have hgA := gS_put HE.out.1
      rw [← HE.out.2] at hgA
      have hX1 : getX A = x := by unfold getX; rw [hgA]; rfl
      have hX2 : getC A = 0 := by unfold getC; rw [hgA]; rfl
      have HX := hid_mk (And.intro hX1 hX2)
      have hAl : A.length ≤ 100000000 := by rw [HE.out.2]; have := snapB_len HE.out.1; omega
      clear hgA hX1 hX2
      clear y0 y1 y2 y3
      refine (getS_own _ A w12 S12.out.a (HT.out.1.kept S12.out.gr) hAl).mono ?_
      intro e w13 hgot
      obtain ⟨usv, udv, rfl, hu, hg13⟩ := got_any hgot
      clear hgot
      rw [HX.out.1] at hu ⊢
      rw [HX.out.2]
      obtain ⟨ua, uc, rfl⟩ := hu.s.len
      obtain ⟨uda, udc, rfl⟩ := hu.d.len
      unfold snapV
      have HA13 : Hid (SB (w13.alloc (.cells #[.int .i64 x.i, .int .i64 x.t, .slice ua x.s.length uc, .slice uda x.d.length udc] 27)) w13.heap.size x.i x.t (.slice ua x.s.length uc) (.slice uda x.d.length udc) ∧ w13.grownBy (w13.alloc (.cells #[.int .i64 x.i, .int .i64 x.t, .slice ua x.s.length uc, .slice uda x.d.length udc] 27)) none) := hid_mk ⟨heap_alloc_new _ _, World.grownBy_alloc _ _ _⟩
      have H13 := hid_mk (And.intro hu hg13)
      clear hu hg13
      go_upto_region 11 with fail
      generalize (w13.alloc (.cells #[.int .i64 x.i, .int .i64 x.t, .slice ua x.s.length uc, .slice uda x.d.length udc] 27)) = w14 at *
      generalize w13.heap.size = ub at *
      have S14 := hid_mk (S12.out.kept (grown_trans H13.out.2 HA13.out.2))
      have HSu := hid_mk (same_yes x (.slice ua x.s.length uc) (.slice uda x.d.length udc) (.slice sa x.s.length sc) (.slice da x.d.length dc) w14 (H13.out.1.kept HA13.out.2) S14.out.sm (by omega))
      unfold snapV at HSu
      obtain ⟨u0, u1, u2, u3, -⟩ := HA13.out.1.all
      obtain ⟨s0, s1, s2, s3, -⟩ := S14.out.s.all
      clear S12 H13
      go_wp2_with (go_at_call 13; refine (num_any _ _).mono ?_; rintro e w' ⟨rfl, hw⟩; rw [hw]; clear hw)
      refine HSu.out.mono ?_
      rintro e w15 ⟨rfl, hg15⟩
      have S12 := hid_mk (S14.out.kept hg15)
      clear hg15 u0 u1 u2 u3 s0 s1 s2 s3 S14 HSu HA13
      obtain ⟨y0, y1, y2, y3, -⟩ := S12.out.y.all
      generalize w15 = w12 at *
      go_wp2_with (go_at_call 13; refine (num_any _ _).mono ?_; rintro e w' ⟨rfl, hw⟩; rw [hw]; clear hw)
      have hL1 : putSL Y = bs := by unfold putSL; rw [if_pos HCC.out.1]; exact HCC.out.2
      have hL2 : putSE Y = 0 := by unfold putSE; rw [if_pos HCC.out.1]
      have HP := hid_mk (putS_any Y (.slice ya Y.s.length yc) (.slice yda Y.d.length ydc) w12 S12.out.ay (HT.out.1.kept S12.out.gr))
      unfold snapV PutSP at HP
      rw [hL1, hL2] at HP
      clear hL1 hL2 y0 y1 y2 y3
      refine HP.out.mono ?_
      rintro e w16 ⟨a16, c16, rfl, hb16, hg16⟩
      have HG16 := hid_mk (grown_trans S12.out.gr hg16)
      have t9 := hb16.text
      have tb := (HB.out.kept HG16.out).text
      have tq := text_same bs
      have HK := hid_mk (knows_any w16 (HT.out.1.kept HG16.out) (HT.out.2.kept HG16.out))
      clear hb16 hg16 HP
      go_wp2_with (first
        | (go_at_call 13; refine (num_any _ _).mono ?_; rintro e w' ⟨rfl, hw⟩; rw [hw]; clear hw)
        | (go_at_call 16; refine HK.out.mono ?_; rintro e wA ⟨rfl, hgA⟩; have HGA := hid_mk hgA; clear hgA))
      go_ret
      exact ⟨rfl, grown_trans HG16.out HGA.out⟩
    · clear hC
      go_wp2_with (go_at_call 13; refine (num_any _ _).mono ?_; rintro e w' ⟨rfl, hw⟩; rw [hw]; clear hw)
      refine HSm.out.mono ?_
      rintro e w10 ⟨rfl, hg10⟩
      have S10 := hid_mk (S9.out.kept hg10)
      have HO10 := hid_mk (F.Own.kept HOw.out hg10 (.inl rfl))
      clear hg10 y0 y1 y2 y3 z0 z1 z2 z3 t2 t3 HSm S9 HOw tq
      obtain ⟨o0, o1, o2, o3, -⟩ := S10.out.o.all
      obtain ⟨s0, s1, s2, s3, -⟩ := S10.out.s.all
      go_wp2_with (go_at_call 13; refine (num_any _ _).mono ?_; rintro e w' ⟨rfl, hw⟩; rw [hw]; clear hw)
      refine (HSx.out w10 S10.out).mono ?_
      rintro e w11 ⟨rfl, hg11⟩
      have S11 := hid_mk (S10.out.kept hg11)
      have HO11 := hid_mk (F.Own.kept HO10.out hg11 (.inl rfl))
      clear hg11 o0 o1 o2 o3 s0 s1 s2 s3 S10 HO10 HSx
      go_wp2_with (go_at_call 13; refine (num_any _ _).mono ?_; rintro e w' ⟨rfl, hw⟩; rw [hw]; clear hw)
      refine (F.stays_any B0 g cap bs (.slice av bs.length cv) w11 HO11.out (HB.out.kept S11.out.gr) (by omega)).mono ?_
      rintro e w12 ⟨rfl, hg12⟩
      have S12 := hid_mk (S11.out.kept hg12)
      clear hg12 S11 HO11
      obtain ⟨y0, y1, y2, y3, -⟩ := S12.out.y.all
      go_wp2_with (go_at_call 13; refine (num_any _ _).mono ?_; rintro e w' ⟨rfl, hw⟩; rw [hw]; clear hw)
      have hgA := gS_put HE.out.1
      rw [← HE.out.2] at hgA
      have hX1 : getX A = x := by unfold getX; rw [hgA]; rfl
      have hX2 : getC A = 0 := by unfold getC; rw [hgA]; rfl
      have HX := hid_mk (And.intro hX1 hX2)
      have hAl : A.length ≤ 100000000 := by rw [HE.out.2]; have := snapB_len HE.out.1; omega
      clear hgA hX1 hX2
      clear y0 y1 y2 y3
      refine (getS_own _ A w12 S12.out.a (HT.out.1.kept S12.out.gr) hAl).mono ?_
      intro e w13 hgot
      obtain ⟨usv, udv, rfl, hu, hg13⟩ := got_any hgot
      clear hgot
      rw [HX.out.1] at hu ⊢
      rw [HX.out.2]
      obtain ⟨ua, uc, rfl⟩ := hu.s.len
      obtain ⟨uda, udc, rfl⟩ := hu.d.len
      unfold snapV
      have HA13 : Hid (SB (w13.alloc (.cells #[.int .i64 x.i, .int .i64 x.t, .slice ua x.s.length uc, .slice uda x.d.length udc] 27)) w13.heap.size x.i x.t (.slice ua x.s.length uc) (.slice uda x.d.length udc) ∧ w13.grownBy (w13.alloc (.cells #[.int .i64 x.i, .int .i64 x.t, .slice ua x.s.length uc, .slice uda x.d.length udc] 27)) none) := hid_mk ⟨heap_alloc_new _ _, World.grownBy_alloc _ _ _⟩
      have H13 := hid_mk (And.intro hu hg13)
      clear hu hg13
      go_upto_region 11 with fail
      generalize (w13.alloc (.cells #[.int .i64 x.i, .int .i64 x.t, .slice ua x.s.length uc, .slice uda x.d.length udc] 27)) = w14 at *
      generalize w13.heap.size = ub at *
      have S14 := hid_mk (S12.out.kept (grown_trans H13.out.2 HA13.out.2))
      have HSu := hid_mk (same_yes x (.slice ua x.s.length uc) (.slice uda x.d.length udc) (.slice sa x.s.length sc) (.slice da x.d.length dc) w14 (H13.out.1.kept HA13.out.2) S14.out.sm (by omega))
      unfold snapV at HSu
      obtain ⟨u0, u1, u2, u3, -⟩ := HA13.out.1.all
      obtain ⟨s0, s1, s2, s3, -⟩ := S14.out.s.all
      clear S12 H13
      go_wp2_with (go_at_call 13; refine (num_any _ _).mono ?_; rintro e w' ⟨rfl, hw⟩; rw [hw]; clear hw)
      refine HSu.out.mono ?_
      rintro e w15 ⟨rfl, hg15⟩
      have S12 := hid_mk (S14.out.kept hg15)
      clear hg15 u0 u1 u2 u3 s0 s1 s2 s3 S14 HSu HA13
      obtain ⟨y0, y1, y2, y3, -⟩ := S12.out.y.all
      generalize w15 = w12 at *
      go_wp2_with (go_at_call 13; refine (num_any _ _).mono ?_; rintro e w' ⟨rfl, hw⟩; rw [hw]; clear hw)
      refine (knows_any w12 (HT.out.1.kept S12.out.gr) (HT.out.2.kept S12.out.gr)).mono ?_
      rintro e wA ⟨rfl, hgA⟩
      have HGA := hid_mk (grown_trans S12.out.gr hgA)
      clear hgA
      go_wp2_with fail
      go_ret
      exact ⟨rfl, HGA.out⟩
  · clear hE
    rcases hC.out with ⟨rfl, hm, hA⟩ | rfl
    · have HCC := hid_mk (And.intro hm hA)
      clear hm hA hC
      go_wp2_with (go_at_call 13; refine (num_any _ _).mono ?_; rintro e w' ⟨rfl, hw⟩; rw [hw]; clear hw)
      refine HSm.out.mono ?_
      rintro e w10 ⟨rfl, hg10⟩
      have S10 := hid_mk (S9.out.kept hg10)
      have HO10 := hid_mk (F.Own.kept HOw.out hg10 (.inl rfl))
      clear hg10 y0 y1 y2 y3 z0 z1 z2 z3 t2 t3 HSm S9 HOw tq
      obtain ⟨o0, o1, o2, o3, -⟩ := S10.out.o.all
      obtain ⟨s0, s1, s2, s3, -⟩ := S10.out.s.all
      go_wp2_with (go_at_call 13; refine (num_any _ _).mono ?_; rintro e w' ⟨rfl, hw⟩; rw [hw]; clear hw)
      refine (HSx.out w10 S10.out).mono ?_
      rintro e w11 ⟨rfl, hg11⟩
      have S11 := hid_mk (S10.out.kept hg11)
      have HO11 := hid_mk (F.Own.kept HO10.out hg11 (.inl rfl))
      clear hg11 o0 o1 o2 o3 s0 s1 s2 s3 S10 HO10 HSx
      go_wp2_with (go_at_call 13; refine (num_any _ _).mono ?_; rintro e w' ⟨rfl, hw⟩; rw [hw]; clear hw)
      refine (F.stays_any B0 g cap bs (.slice av bs.length cv) w11 HO11.out (HB.out.kept S11.out.gr) (by omega)).mono ?_
      rintro e w12 ⟨rfl, hg12⟩
      have S12 := hid_mk (S11.out.kept hg12)
      clear hg12 S11 HO11
      obtain ⟨y0, y1, y2, y3, -⟩ := S12.out.y.all
      go_wp2_with (go_at_call 13; refine (num_any _ _).mono ?_; rintro e w' ⟨rfl, hw⟩; rw [hw]; clear hw)
      have hL1 : putSL Y = bs := by unfold putSL; rw [if_pos HCC.out.1]; exact HCC.out.2
      have hL2 : putSE Y = 0 := by unfold putSE; rw [if_pos HCC.out.1]
      have HP := hid_mk (putS_any Y (.slice ya Y.s.length yc) (.slice yda Y.d.length ydc) w12 S12.out.ay (HT.out.1.kept S12.out.gr))
      unfold snapV PutSP at HP
      rw [hL1, hL2] at HP
      clear hL1 hL2 y0 y1 y2 y3
      refine HP.out.mono ?_
      rintro e w16 ⟨a16, c16, rfl, hb16, hg16⟩
      have HG16 := hid_mk (grown_trans S12.out.gr hg16)
      have t9 := hb16.text
      have tb := (HB.out.kept HG16.out).text
      have tq := text_same bs
      have HK := hid_mk (knows_any w16 (HT.out.1.kept HG16.out) (HT.out.2.kept HG16.out))
      clear hb16 hg16 HP
      go_wp2_with (first
        | (go_at_call 13; refine (num_any _ _).mono ?_; rintro e w' ⟨rfl, hw⟩; rw [hw]; clear hw)
        | (go_at_call 16; refine HK.out.mono ?_; rintro e wA ⟨rfl, hgA⟩; have HGA := hid_mk hgA; clear hgA))
      go_ret
      exact ⟨rfl, grown_trans HG16.out HGA.out⟩
    · clear hC
      go_wp2_with (go_at_call 13; refine (num_any _ _).mono ?_; rintro e w' ⟨rfl, hw⟩; rw [hw]; clear hw)
      refine HSm.out.mono ?_
      rintro e w10 ⟨rfl, hg10⟩
      have S10 := hid_mk (S9.out.kept hg10)
      have HO10 := hid_mk (F.Own.kept HOw.out hg10 (.inl rfl))
      clear hg10 y0 y1 y2 y3 z0 z1 z2 z3 t2 t3 HSm S9 HOw tq
      obtain ⟨o0, o1, o2, o3, -⟩ := S10.out.o.all
      obtain ⟨s0, s1, s2, s3, -⟩ := S10.out.s.all
      go_wp2_with (go_at_call 13; refine (num_any _ _).mono ?_; rintro e w' ⟨rfl, hw⟩; rw [hw]; clear hw)
      refine (HSx.out w10 S10.out).mono ?_
      rintro e w11 ⟨rfl, hg11⟩
      have S11 := hid_mk (S10.out.kept hg11)
      have HO11 := hid_mk (F.Own.kept HO10.out hg11 (.inl rfl))
      clear hg11 o0 o1 o2 o3 s0 s1 s2 s3 S10 HO10 HSx
      go_wp2_with (go_at_call 13; refine (num_any _ _).mono ?_; rintro e w' ⟨rfl, hw⟩; rw [hw]; clear hw)
      refine (F.stays_any B0 g cap bs (.slice av bs.length cv) w11 HO11.out (HB.out.kept S11.out.gr) (by omega)).mono ?_
      rintro e w12 ⟨rfl, hg12⟩
      have S12 := hid_mk (S11.out.kept hg12)
      clear hg12 S11 HO11
      obtain ⟨y0, y1, y2, y3, -⟩ := S12.out.y.all
      go_wp2_with (go_at_call 13; refine (num_any _ _).mono ?_; rintro e w' ⟨rfl, hw⟩; rw [hw]; clear hw)
      refine (knows_any w12 (HT.out.1.kept S12.out.gr) (HT.out.2.kept S12.out.gr)).mono ?_
      rintro e wA ⟨rfl, hgA⟩
      have HGA := hid_mk (grown_trans S12.out.gr hgA)
      clear hgA
      go_wp2_with fail
      go_ret
      exact ⟨rfl, HGA.out⟩

end Go.Proofs.YtmlppjmpoanlkaaGreatDoor.W
