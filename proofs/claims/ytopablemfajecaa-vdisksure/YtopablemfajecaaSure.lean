/- VdiskSure: the walk. -/
import Derived.Test.YtopablemfajecaaTexts
import Derived.Deep.CutRange
namespace Go.Proofs.Ytopablemfajecaa
open Go.RowKit Go.Maps Go.WideMaps Go.WideElems Go.Sort Go.Shelf
set_option linter.unusedVariables false
set_option linter.unusedSimpArgs false

/-- Ops that came in. -/
def OpsIn (w : World) (v : Value) (L : Nat) : Prop :=
  (∃ a cap, v = .slice a L cap) ∧ ∀ i, i < L → ∃ g off, (∀ w', (Instr.indexAt 22 v (.int .i64 i)).run Try.prog w' = .ok (.pointer (some ⟨g, off, none⟩)) w') ∧
    ∃ (kd n : Int) (s t : ByteArray) (a1 a2 : Option Addr) (l1 c1 l2 c2 : Nat), w.cell? ⟨g, off, none⟩ = some (.int .i64 kd) ∧ w.cell? ⟨g, off + 1, none⟩ = some (.string s) ∧ w.cell? ⟨g, off + 2, none⟩ = some (.string t) ∧ w.cell? ⟨g, off + 3, none⟩ = some (.slice a1 l1 c1) ∧ w.cell? ⟨g, off + 4, none⟩ = some (.int .i64 n) ∧ w.cell? ⟨g, off + 5, none⟩ = some (.slice a2 l2 c2) ∧
      s.size ≤ maxLen ∧ t.size ≤ maxLen ∧ ∃ l, l.length ≤ 140737488355328 ∧ SrcB w (.slice a1 l1 c1) l

theorem right_u : rightB ⟨#[115, 117, 114, 101]⟩ = true := by decide
theorem size_u : (⟨#[115, 117, 114, 101]⟩ : ByteArray).size ≤ maxLen := by show 4 ≤ maxLen; unfold maxLen; omega
theorem ne_u {s : ByteArray} (h : (s.toList == [115, 117, 114, 101]) = false) : key ⟨#[115, 117, 114, 101]⟩ ≠ key s := by
  intro e
  have hs : s = ⟨#[115, 117, 114, 101]⟩ := by
    unfold key at e
    have h1 : #[115, 117, 114, 101].toList = s.data.toList := by simpa using e
    apply ByteArray.ext
    exact (Array.toList_inj.1 h1).symm
  rw [hs] at h
  simp [go_sem] at h

theorem row_keeps {w w' : World} {F : Nat → Prop} {B n sz : Nat} {e : TypeId} {v : Value} {xs : List Value} (h : w.ownsRow B e sz v n xs) (hk : Keeps F w w') (hF : ∀ k, B ≤ k → ¬ F k) : w'.ownsRow B e sz v n xs := by
  refine ⟨h.1, ?_⟩
  rcases h.2 with h | ⟨g, cap, cur, hv, hB, hg, r⟩
  · exact .inl h
  · exact .inr ⟨g, cap, cur, hv, hB, (hk.block g (Array.getElem?_eq_some_iff.1 hg).1 (hF g hB)).trans hg, r⟩

theorem row_form {w : World} {B : Nat} {v : Value} {l : List UInt8} (h : w.ownsRow B 5 1 v l.length (u8s l)) : ∃ a cap, v = .slice a l.length cap ∧ l.length ≤ cap := by
  rcases h.2 with ⟨rfl, h0⟩ | ⟨g, cap, cur, rfl, _, _, hc, _⟩
  · exact ⟨none, 0, by rw [h0], by omega⟩
  · exact ⟨_, cap, rfl, hc⟩

set_option maxRecDepth 100000 in
set_option maxHeartbeats 8000000 in
theorem vsure_any (a0 : Option Addr) (cap0 : Nat) (bs : List UInt8) (lv : Value) (L : Nat) (Cv : Value) (cs : List Int) (w : World) (hb0 : SrcB w (.slice a0 bs.length cap0) bs) (hcap : bs.length ≤ cap0) (hops : OpsIn w lv L)
    (hcs : SrcI w Cv cs) (hcl : ∀ g off cap, 0 < cs.length → Cv = .slice (some ⟨g, off, none⟩) cs.length cap → g < w.heap.size) :
    Calls Try.prog 5 #[.slice a0 bs.length cap0, lv, Cv] w fun e w' => e = .returned (.bool true) ∧ w.grownBy w' none := by
  obtain ⟨bb, hbb⟩ : ∃ bb, bb = bs.take 1000 := ⟨_, rfl⟩
  have hbl : bb.length = min 1000 bs.length := by rw [hbb]; simp
  have hb1 : SrcB w (.slice a0 bb.length cap0) bb := by
    have := hb0.take (min 1000 bs.length) (by omega)
    rw [hbl, hbb]
    have e : bs.take (min 1000 bs.length) = bs.take 1000 := by
      by_cases h : 1000 ≤ bs.length
      · rw [Nat.min_eq_left h]
      · rw [Nat.min_eq_right (by omega), List.take_of_length_le (Nat.le_refl _), List.take_of_length_le (by omega)]
    rw [e] at this
    exact this
  have hbb1000 : bb.length ≤ 1000 := by omega
  have HB1 := hid_mk hb1
  have HOPS := hid_mk hops
  have HCS := hid_mk hcs
  have HCL := hid_mk hcl
  have HBL := hid_mk hbl
  have HBK := hid_mk hbb1000
  have hlv : ∀ w ty, (Builtin.len_ #[22] ty #[lv]).run Try.prog w = .ok (.int .i64 L) w := fun w ty => by
    obtain ⟨a, cap, rfl⟩ := hops.1
    exact len_slice 22 35 Try.underlying22 _ _ _ ty w
  have hsl : ∀ w, (Instr.slice 32 (.slice a0 bs.length cap0) none (some (.int .i64 1000)) none).run Try.prog w = .ok (if 1000 ≤ cap0 then .slice a0 1000 cap0 else undef) w ∨ cap0 < 1000 := fun w => by
    by_cases h : 1000 ≤ cap0
    · left; rw [if_pos h]; exact slice_bytes a0 bs.length cap0 1000 h w
    · right; omega
  have HSL := hid_mk hsl
  clear hbb hbl hb1 hb0 hops hcs hcl hbb1000 hsl
  go_enter Try.func5, Try.ntmps5
  go_wp2_with fail
  refine (new_ok 1048576 w (by decide) (by decide)).mono ?_
  rintro e w0 ⟨b, bn, bs0, rfl, hI0, g0⟩
  have HI0 := hid_mk hI0
  have K0 := hid_mk (Keeps.of_none (F := fun k => w.heap.size ≤ k) g0)
  clear hI0 g0
  go_upto_if 33 with (first | (go_at_call 11; refine (num_any _ _).mono ?_; rintro e w0 ⟨rfl, rfl⟩) | (go_at_call 12; refine (knows_any _).mono ?_; rintro e w1 ⟨rfl, hg1⟩; have I1 := hid_mk (HI0.out.kept_none hg1); have K1 := hid_mk (K0.out.step (Keeps.of_none hg1)); clear hg1))
  go_cut [0] from 16 (fun s0 wx => s0 = .slice a0 bb.length cap0 ∧ wx = w1)
  case first =>
    by_cases hlong : 1000 < bs.length
    · have hsl1 : ∀ w, (Instr.slice 32 (.slice a0 bs.length cap0) none (some (.int .i64 1000)) none).run Try.prog w = .ok (.slice a0 1000 cap0) w := fun w => slice_bytes a0 bs.length cap0 1000 (by omega) w
      go_wp2_with fail
      go_meet
      case rel => exact ⟨by rw [HBL.out, Nat.min_eq_left (by omega)], rfl⟩
    · go_wp2_with fail
      go_meet
      case rel => exact ⟨by rw [HBL.out, Nat.min_eq_right (by omega)], rfl⟩
  case rest =>
    obtain ⟨rfl, rfl⟩ := hcut
    go_wp2_with fail
    refine (create_ok 0 b _ _ ⟨#[115, 117, 114, 101]⟩ _ I1.out size_u right_u (fileAt_empty _) (show (0 : Nat) < 512 by decide) (by decide) rfl (show (-1 : Int) ≠ 0 by decide)).mono ?_
    rintro e w2 ⟨rfl, ⟨f, v, v', hf, hI2⟩, hk2⟩
    obtain ⟨m2, M2⟩ : ∃ m2 : Mem, Hid (IsDisk w2 (fun k => w.heap.size ≤ k) 1 b m2 ∧ m2.names = (DataW.map []).put (key ⟨#[115, 117, 114, 101]⟩) (.lit (.int .i64 f)) ∧ m2.files f = some ⟨.slice none 0 0, [], 0⟩ ∧ m2.gone = false ∧ m2.fuse = -1 ∧ m2.quota = 1048576) :=
      ⟨_, hI2.here K1.out.size, rfl, upd_same _ _ _, rfl, rfl, rfl⟩
    have K2 := hid_mk (K1.out.step hk2)
    clear hI2 hk2
    go_wp2_with (go_at_call 11; refine (num_any _ _).mono ?_; rintro e w2 ⟨rfl, rfl⟩)
    refine (append_ok 1 b _ m2 ⟨#[115, 117, 114, 101]⟩ f ⟨.slice none 0 0, [], 0⟩ bb _ _ _ M2.out.1 (by decide) size_u right_u (by rw [M2.out.2.1]; exact fileAt_put_same isMap_empty _ _) M2.out.2.2.1 (HB1.out.keeps K2.out) (by rw [M2.out.2.1, total_one, M2.out.2.2.2.2.2]; have := HBK.out; simp [lenOf, M2.out.2.2.1]; omega) M2.out.2.2.2.1 (by rw [M2.out.2.2.2.2.1]; decide)).mono ?_
    rintro e w3 ⟨rfl, ⟨v3, hI3⟩, hk3⟩
    obtain ⟨m3, M3⟩ : ∃ m3 : Mem, Hid (IsDisk w3 (fun k => w.heap.size ≤ k) 1 b m3 ∧ m3.names = (DataW.map []).put (key ⟨#[115, 117, 114, 101]⟩) (.lit (.int .i64 f)) ∧ m3.files f = some ⟨v3, bb, 0⟩ ∧ m3.gone = false ∧ m3.fuse = -1) :=
      ⟨_, hI3.here K2.out.size, M2.out.2.1, by show upd _ _ _ _ = _; rw [upd_same]; rfl, M2.out.2.2.2.1, by show spent m2.fuse = -1; rw [M2.out.2.2.2.2.1]; rfl⟩
    have K3 := hid_mk (K2.out.step hk3)
    clear hI3 hk3
    go_wp2_with (go_at_call 11; refine (num_any _ _).mono ?_; rintro e w3 ⟨rfl, rfl⟩)
    refine (sync_ok 1 b _ m3 ⟨#[115, 117, 114, 101]⟩ f ⟨v3, bb, 0⟩ _ M3.out.1 size_u right_u (by rw [M3.out.2.1]; exact fileAt_put_same isMap_empty _ _) M3.out.2.2.1 M3.out.2.2.2.1 (by rw [M3.out.2.2.2.2]; decide)).mono ?_
    rintro e w4 ⟨rfl, hI4, hk4⟩
    obtain ⟨m4, M4⟩ : ∃ m4 : Mem, Hid (IsDisk w4 (fun k => w.heap.size ≤ k) 1 b m4 ∧ m4.names = (DataW.map []).put (key ⟨#[115, 117, 114, 101]⟩) (.lit (.int .i64 f)) ∧ m4.files f = some ⟨v3, bb, bb.length⟩ ∧ m4.gone = false ∧ m4.fuse = -1) :=
      ⟨_, hI4, M3.out.2.1, upd_same _ _ _, M3.out.2.2.2.1, by show spent m3.fuse = -1; rw [M3.out.2.2.2.2]; rfl⟩
    have K4 := hid_mk (K3.out.step hk4)
    clear hI4 hk4
    go_wp2_with (go_at_call 11; refine (num_any _ _).mono ?_; rintro e w4 ⟨rfl, rfl⟩)
    refine (syncdir_ok 1 b _ m4 _ M4.out.1 M4.out.2.2.2.1 (by rw [M4.out.2.2.2.2]; decide)).mono ?_
    rintro e w5 ⟨rfl, ⟨bs5, hI5⟩, hk5⟩
    obtain ⟨m5, M5⟩ : ∃ m5 : Mem, Hid (IsDisk w5 (fun k => w.heap.size ≤ k) 1 b m5 ∧ Sure ⟨#[115, 117, 114, 101]⟩ bb m5) :=
      ⟨_, hI5.here K4.out.size, M4.out.2.2.2.1, by show spent m4.fuse = -1; rw [M4.out.2.2.2.2]; rfl, fun c hc => by simp at hc, f, ⟨v3, bb, bb.length⟩, by show fileAt m4.names _ = _; rw [M4.out.2.1]; exact fileAt_put_same isMap_empty _ _, by show fileAt m4.names _ = _; rw [M4.out.2.1]; exact fileAt_put_same isMap_empty _ _, M4.out.2.2.1, Nat.le_refl _, Nat.le_refl _, List.take_length⟩
    have K5 := hid_mk (K4.out.step hk5)
    clear hI5 hk5
    go_wp2_with (go_at_call 11; refine (num_any _ _).mono ?_; rintro e w5 ⟨rfl, rfl⟩)
    go_loopw [9] (fun i wr => ∃ k : Nat, k ≤ 100 ∧ k ≤ L ∧ i = .int .i64 k ∧ Hid (∃ m : Mem, IsDisk wr (fun k => w.heap.size ≤ k) (1 + k) b m ∧ Sure ⟨#[115, 117, 114, 101]⟩ bb m ∧ Keeps (fun k => w.heap.size ≤ k) w wr)) (fun i _ => 100 - (intOf i).toNat)
    case atStart => exact ⟨0, Nat.zero_le _, Nat.zero_le _, rfl, m5, M5.out.1, M5.out.2, K5.out⟩
    case round =>
      obtain ⟨k, hk, hkL, rfl, HM⟩ := hrel
      by_cases hlt : k < L ∧ k < 100
      · obtain ⟨h1, h2⟩ := hlt
        obtain ⟨m, hI, hS, hK⟩ := HM.out
        obtain ⟨g, off, hix, kd, n, s, t, a1, a2, l1, c1, l2, c2, d0, d1, d2, d3, d4, d5, hs, ht, l, hl, hsrc⟩ := HOPS.out.2 k h1
        have e0 := hK.grown.cell d0 (by simp)
        have e1 := hK.grown.cell d1 (by simp)
        have e2 := hK.grown.cell d2 (by simp)
        have e3 := hK.grown.cell d3 (by simp)
        have e4 := hK.grown.cell d4 (by simp)
        have e5 := hK.grown.cell d5 (by simp)
        have HH := hid_mk (And.intro hI (And.intro hS (And.intro hK (And.intro hs (And.intro ht (And.intro hl hsrc))))))
        clear hI hS hK hs ht hl hsrc d0 d1 d2 d3 d4 d5
        have hskip : Hid (∃ m : Mem, IsDisk (wr.alloc (.cells #[.int .i64 kd, .string s, .string t, .slice a1 l1 c1, .int .i64 n, .slice a2 l2 c2] 35)) (fun k => w.heap.size ≤ k) (1 + (k + 1)) b m ∧ Sure ⟨#[115, 117, 114, 101]⟩ bb m ∧ Keeps (fun k => w.heap.size ≤ k) w (wr.alloc (.cells #[.int .i64 kd, .string s, .string t, .slice a1 l1 c1, .int .i64 n, .slice a2 l2 c2] 35))) :=
          ⟨m, (HH.out.1.kept_none (World.grownBy_alloc _ _ none)).monoN (by omega), HH.out.2.1, HH.out.2.2.1.step (Keeps.of_none (World.grownBy_alloc _ _ none))⟩
        have hdo : Hid ((3 < kd → key ⟨#[115, 117, 114, 101]⟩ ≠ key s ∧ key ⟨#[115, 117, 114, 101]⟩ ≠ key t) → Calls Try.prog 26 #[.pointer (some ⟨b, 0, none⟩), .agg #[.int .i64 kd, .string s, .string t, .slice a1 l1 c1, .int .i64 n, .slice a2 l2 c2]] (wr.alloc (.cells #[.int .i64 kd, .string s, .string t, .slice a1 l1 c1, .int .i64 n, .slice a2 l2 c2] 35)) fun e w' => (∃ z, e = .returned (.int .i64 z)) ∧ ∃ m : Mem, IsDisk w' (fun k => w.heap.size ≤ k) (1 + (k + 1)) b m ∧ Sure ⟨#[115, 117, 114, 101]⟩ bb m ∧ Keeps (fun k => w.heap.size ≤ k) w w') := by
          intro hg
          have hg0 := World.grownBy_alloc wr (.cells #[.int .i64 kd, .string s, .string t, .slice a1 l1 c1, .int .i64 n, .slice a2 l2 c2] 35) none
          have hK' := HH.out.2.2.1.step (Keeps.of_none hg0)
          refine (do_any (1 + k) b _ m kd n s t l (.slice a1 l1 c1) (.slice a2 l2 c2) _ (HH.out.1.kept_none hg0) (by omega) HH.out.2.2.2.1 HH.out.2.2.2.2.1 HH.out.2.2.2.2.2.1 (HH.out.2.2.2.2.2.2.keeps hK') ⟨_, _, _, rfl⟩ ⟨_, _, _, rfl⟩).mono ?_
          rintro e w' ⟨z, m', rfl, hS, hI', hk'⟩
          exact ⟨⟨z, rfl⟩, m', hI'.here hK'.size, HH.out.2.1.step HH.out.1.rest.names.isMap hg hS, hK'.step hk'⟩
        clear HH HM
        by_cases k3 : 3 < kd
        · cases q1 : (s.toList == [115, 117, 114, 101]) with
          | true =>
            go_wp2_with fail
            case roundEnd => exact ⟨⟨k + 1, by omega, by omega, by simp, hskip⟩, by simp [intOf]; omega⟩
          | false =>
            cases q2 : (t.toList == [115, 117, 114, 101]) with
            | true =>
              go_wp2_with fail
              case roundEnd => exact ⟨⟨k + 1, by omega, by omega, by simp, hskip⟩, by simp [intOf]; omega⟩
            | false =>
              go_wp2_with fail
              refine (hdo.out (fun _ => ⟨ne_u q1, ne_u q2⟩)).mono ?_
              rintro e w7 ⟨⟨z, rfl⟩, hm7⟩
              have HM7 := hid_mk hm7
              clear hm7
              go_wp2_with fail
              exact ⟨⟨k + 1, by omega, by omega, by simp, HM7⟩, by simp [intOf]; omega⟩
        · cases q1 : (s.toList == [115, 117, 114, 101]) with
          | true =>
            go_wp2_with fail
            refine (hdo.out (fun h => by omega)).mono ?_
            rintro e w7 ⟨⟨z, rfl⟩, hm7⟩
            have HM7 := hid_mk hm7
            clear hm7
            go_wp2_with fail
            exact ⟨⟨k + 1, by omega, by omega, by simp, HM7⟩, by simp [intOf]; omega⟩
          | false =>
            cases q2 : (t.toList == [115, 117, 114, 101]) with
            | true =>
              go_wp2_with fail
              refine (hdo.out (fun h => by omega)).mono ?_
              rintro e w7 ⟨⟨z, rfl⟩, hm7⟩
              have HM7 := hid_mk hm7
              clear hm7
              go_wp2_with fail
              exact ⟨⟨k + 1, by omega, by omega, by simp, HM7⟩, by simp [intOf]; omega⟩
            | false =>
              go_wp2_with fail
              refine (hdo.out (fun h => by omega)).mono ?_
              rintro e w7 ⟨⟨z, rfl⟩, hm7⟩
              have HM7 := hid_mk hm7
              clear hm7
              go_wp2_with fail
              exact ⟨⟨k + 1, by omega, by omega, by simp, HM7⟩, by simp [intOf]; omega⟩
      · obtain ⟨m, hI, hS, hK⟩ := HM.out
        have M8 := hid_mk (And.intro hI (And.intro hS hK))
        have hK100 := hid_mk hk
        have hout : (¬ k < L) ∨ (k < L ∧ ¬ k < 100) := by omega
        clear hI hS hK HM hk hkL hlt
        rcases hout with h1 | ⟨h1, h2⟩
        all_goals
          go_wp2_with fail
          refine (crash_ok (1 + k) b _ m Cv cs _ M8.out.1 (by have := hK100.out; omega) (HCS.out.keeps M8.out.2.2) (fun g off cap hp hv => ⟨by have := HCL.out g off cap hp hv; show ¬ w.heap.size ≤ g; omega, Nat.lt_of_lt_of_le (HCL.out g off cap hp hv) M8.out.2.2.size⟩)).mono ?_
          rintro e w9 ⟨rfl, ⟨bm9, bs9, hI9⟩, hk9⟩
          obtain ⟨f9, y9, hf9, hy9, hl9, ht9⟩ := M8.out.2.1.crash cs bm9 bs9
          have hI9' := (hI9.here M8.out.2.2.size).bound
          obtain ⟨m9, hm9⟩ : ∃ m9, m9 = crashed cs m bm9 bs9 := ⟨_, rfl⟩
          have htw : ∀ bm' bs', (crashed cs m9 bm' bs').names = m9.names ∧ (∀ f, ((crashed cs m9 bm' bs').files f).map FileG.data = (m9.files f).map FileG.data) := fun bm' bs' => by
            rw [hm9]
            exact crash_twice cs hI9 (fun f x hx => (M8.out.1.rest.file f x hx).2.2.2.2.1) (M8.out.1.rest.gS.replay M8.out.1.rest.gC _)
          rw [← hm9] at hI9' hf9 hy9
          have M9 := hid_mk (And.intro hI9' (And.intro hf9 (And.intro hy9 (And.intro hl9 ht9))))
          have HTW := hid_mk htw
          have K9 := hid_mk (M8.out.2.2.step hk9)
          clear hI9 hI9' hf9 hy9 hl9 ht9 hm9 htw hk9
          go_wp2_with fail
          refine (read_ok (1 + k) b _ m9 ⟨#[115, 117, 114, 101]⟩ f9 y9 _ M9.out.1 size_u right_u M9.out.2.1 M9.out.2.2.1).mono ?_
          rintro e w10 ⟨v10, rfl, hrow10, hg10⟩
          obtain ⟨a10, cap10, rfl, hc10⟩ := row_form hrow10
          have hl9 : bb.length ≤ y9.data.length := M9.out.2.2.2.1
          have hs10 := row_src hrow10
          have t10 : ∀ nq, (convert 32 9 (.slice a10 bb.length cap10)).run Try.prog (w10.drewN nq) = .ok (.string ⟨bb.toArray⟩) (w10.drewN nq) := fun nq => by
            have h := ((hs10.kept_none (grown_drewN w10 nq none)).take bb.length hl9).text
            rw [M9.out.2.2.2.2] at h
            exact h
          have sl10 : ∀ w, (Instr.slice 32 (.slice a10 y9.data.length cap10) none (some (.int .i64 bb.length)) none).run Try.prog w = .ok (.slice a10 bb.length cap10) w := fun w => slice_bytes a10 y9.data.length cap10 bb.length (by omega) w
          have K10 := hid_mk (K9.out.step (Keeps.of_none hg10))
          have t0 : ∀ nq, (convert 32 9 (.slice a0 bb.length cap0)).run Try.prog (w10.drewN nq) = .ok (.string ⟨bb.toArray⟩) (w10.drewN nq) := fun nq => ((HB1.out.keeps K10.out).kept_none (grown_drewN w10 nq none)).text
          have M10 := hid_mk (And.intro (M9.out.1.kept_none hg10) hrow10)
          have HS10 := hid_mk hg10.size
          have hl9' : ¬ (y9.data.length < bb.length) := by omega
          clear hrow10 hg10 hs10
          go_wp2_with (go_at_call 11; refine (num_any _ _).mono ?_; rintro e w10 ⟨rfl, rfl⟩)
          go_quiet ((go_at_call 11; exact Calls.quiet_of_same (num_any _ _)))
          have hgq := grown_drewN w10 nq none
          have M11 := hid_mk (And.intro (M10.out.1.kept_none hgq) (row_keeps (F := fun _ => False) M10.out.2 (Keeps.of_none hgq) (fun _ _ h => h)))
          have K11 := hid_mk (K10.out.step (Keeps.of_none hgq))
          have HS11 := hid_mk (Nat.le_trans HS10.out hgq.size)
          generalize w10.drewN nq = w11 at *
          clear hgq t10 t0
          go_wp2_with fail
          refine (list_ok (1 + k) b _ m9 _ M11.out.1 (by have := hK100.out; omega)).mono ?_
          rintro e w12 ⟨v12, rfl, hrow12, hg12⟩
          have M12 := hid_mk (And.intro (M11.out.1.kept_none hg12) (And.intro (row_keeps (F := fun _ => False) M11.out.2 (Keeps.of_none hg12) (fun _ _ h => h)) hrow12))
          have K12 := hid_mk (K11.out.step (Keeps.of_none hg12))
          clear hrow12 hg12
          go_wp2_with fail
          refine (used_ok (1 + k) b _ m9 _ M12.out.1 (by have := hK100.out; omega)).mono ?_
          rintro e w13 ⟨rfl, hg13⟩
          obtain ⟨tt, htt⟩ : ∃ tt, tt = total m9.names (lenOf m9.files) := ⟨_, rfl⟩
          rw [← htt]
          have HTT := hid_mk htt
          have M13 := hid_mk (And.intro (M12.out.1.kept_none hg13) (And.intro (row_keeps (F := fun _ => False) M12.out.2.1 (Keeps.of_none hg13) (fun _ _ h => h)) (row_keeps (F := fun _ => False) M12.out.2.2 (Keeps.of_none hg13) (fun _ _ h => h))))
          have K13 := hid_mk (K12.out.step (Keeps.of_none hg13))
          clear hg13 htt
          go_wp2_with fail
          refine (crash_ok (1 + k) b _ m9 Cv cs _ M13.out.1 (by have := hK100.out; omega) (HCS.out.keeps K13.out) (fun g off cap hp hv => ⟨by have := HCL.out g off cap hp hv; show ¬ (w.heap.size ≤ g ∧ _); omega, Nat.lt_of_lt_of_le (HCL.out g off cap hp hv) K13.out.size⟩)).mono ?_
          rintro e w14 ⟨rfl, ⟨bm14, bs14, hI14⟩, hk14⟩
          obtain ⟨hn14, hd14⟩ := HTW.out bm14 bs14
          obtain ⟨m14, hm14⟩ : ∃ m14, m14 = crashed cs m9 bm14 bs14 := ⟨_, rfl⟩
          rw [← hm14] at hn14 hd14 hI14
          have hd9 := hd14 f9
          rw [M9.out.2.2.1] at hd9
          obtain ⟨y14, hy14, hyd14⟩ : ∃ y14, m14.files f9 = some y14 ∧ y14.data = y9.data := by
            cases h : m14.files f9 with
            | none => rw [h] at hd9; simp at hd9
            | some y => rw [h] at hd9; exact ⟨y, rfl, by simpa using hd9⟩
          have M14 := hid_mk (And.intro hI14 (And.intro hn14 (And.intro hy14 (And.intro hyd14 (And.intro (row_keeps M13.out.2.1 hk14 (fun k h1 h2 => by have := h2.2; omega)) (row_keeps M13.out.2.2 hk14 (fun k h1 h2 => by have := h2.2; have := HS11.out; omega)))))))
          have HTOT := hid_mk (show total m14.names (lenOf m14.files) = tt by rw [hn14, HTT.out, show lenOf m14.files = lenOf m9.files from funext fun f => by rw [lenOf_map, lenOf_map, hd14 f]])
          have K14 := hid_mk (K13.out.step (hk14.mono (fun k h => h.1)))
          clear hI14 hn14 hd14 hm14 hd9 hy14 hyd14 hk14
          go_wp2_with fail
          refine (read_ok (1 + k) b _ m14 ⟨#[115, 117, 114, 101]⟩ f9 y14 _ M14.out.1 size_u right_u (by rw [M14.out.2.1]; exact M9.out.2.1) M14.out.2.2.1).mono ?_
          rintro e w15 ⟨v15, rfl, hrow15, hg15⟩
          have t15 := (row_src hrow15).text
          rw [M14.out.2.2.2.1] at t15
          have tx := (row_src (row_keeps (F := fun _ => False) M14.out.2.2.2.2.1 (Keeps.of_none hg15) (fun _ _ h => h))).text
          have M15 := hid_mk (And.intro (M14.out.1.kept_none hg15) (row_keeps (F := fun _ => False) M14.out.2.2.2.2.2 (Keeps.of_none hg15) (fun _ _ h => h)))
          have K15 := hid_mk (K14.out.step (Keeps.of_none hg15))
          clear hrow15 hg15
          go_wp2_with (go_at_call 11; refine (num_any _ _).mono ?_; rintro e w15 ⟨rfl, rfl⟩)
          refine (list_ok (1 + k) b _ m14 _ M15.out.1 (by have := hK100.out; omega)).mono ?_
          rintro e w16 ⟨v16, rfl, hrow16, hg16⟩
          rw [M14.out.2.1] at hrow16
          have hrow12 := row_keeps (F := fun _ => False) M15.out.2 (Keeps.of_none hg16) (fun _ _ h => h)
          have hkey : (sortedKeys m9.names).length = Maps.size m9.names := sortedKeys_length _ (World.ownsMap.isMap M9.out.1.rest.names)
          have hszK : Maps.size m9.names ≤ 1099511627776 := by have h : Maps.size m9.names ≤ 1 + k := World.ownsMap.size_le M9.out.1.rest.names; have := hK100.out; omega
          have CT := hid_mk (texts_same v12 v16 _ _ _ _ w16 hrow12 hrow16 hkey hszK)
          have M16 := hid_mk (M15.out.1.kept_none hg16)
          have K16 := hid_mk (K15.out.step (Keeps.of_none hg16))
          clear hrow16 hg16 hrow12 hkey hszK
          go_wp2_with fail
          refine CT.out.mono ?_
          rintro e w17 ⟨rfl, hg17⟩
          have CU := hid_mk (used_ok (1 + k) b _ m14 _ (M16.out.kept_none hg17) (by have := hK100.out; omega))
          have K17 := hid_mk (K16.out.step (Keeps.of_none hg17))
          clear hg17
          go_wp2_with fail
          refine CU.out.mono ?_
          rintro e w18 ⟨rfl, hg18⟩
          rw [HTOT.out]
          have K18 := hid_mk (K17.out.step (Keeps.of_none hg18))
          clear hg18
          go_wp2_with fail
          go_ret
          exact ⟨rfl, K18.out.grown⟩

end Go.Proofs.Ytopablemfajecaa
