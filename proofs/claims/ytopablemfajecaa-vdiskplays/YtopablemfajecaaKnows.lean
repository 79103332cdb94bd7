/- Directories and crashes, in plain words; knows. -/
import Derived.Test.YtopablemfajecaaCrashC
import Derived.Lib.SlBytesConst
import Derived.Lib.BufferRead
import Derived.Laws.IdiomStrings
namespace Go.Proofs.Ytopablemfajecaa
open Go.RowKit Go.Maps Go.WideMaps Go.WideElems
set_option linter.unusedVariables false
set_option linter.unusedSimpArgs false

theorem fileAt_put_same {D : DataW Unit} (hD : IsMap D) (s : ByteArray) (f : Nat) : fileAt (D.put (key s) (.lit (.int .i64 f))) (key s) = some f := by
  unfold fileAt
  rw [atKey_put_same hD (by trivial)]
  simp
theorem fileAt_put_other {D : DataW Unit} {s t : ByteArray} (h : key t ≠ key s) (d : DataW Unit) : fileAt (D.put (key s) d) (key t) = fileAt D (key t) := by
  unfold fileAt
  rw [atKey_put_other h]
theorem fileAt_del_same {D : DataW Unit} (s : ByteArray) : fileAt (D.del (key s)) (key s) = none := by
  unfold fileAt
  rw [atKey_del_same]
  simp
theorem fileAt_del_other {D : DataW Unit} {s t : ByteArray} (h : key t ≠ key s) : fileAt (D.del (key s)) (key t) = fileAt D (key t) := by
  unfold fileAt
  rw [atKey_del_other h]
theorem fileAt_empty (k : Lit) : fileAt (.map []) k = none := by simp [fileAt, DataW.atKey]

/-- What a crash leaves of a file: all of it, or first bytes, the synced ones at least. -/
def Left (x y : FileG) : Prop := y = x ∨ (y.data = x.data.take y.synced ∧ x.synced ≤ y.synced ∧ y.synced ≤ x.data.length)

theorem Left.cut {x y : FileG} (h : Left x y) (hx : x.synced ≤ x.data.length) {n : Nat} (hn : n ≤ y.data.length - y.synced) : Left x (y.cut n) := by
  rcases h with rfl | ⟨h1, h2, h3⟩
  · exact .inr ⟨rfl, by simp [FileG.cut], by simp [FileG.cut]; omega⟩
  · have hl : y.data.length = y.synced := by rw [h1]; simp; omega
    have hn0 : n = 0 := by omega
    subst hn0
    refine .inr ⟨?_, by simpa [FileG.cut] using h2, by simpa [FileG.cut] using h3⟩
    simp [FileG.cut, h1, List.take_take]

theorem crashTo_left (cs : List Int) (D : DataW Unit) (files : Nat → Option FileG) (f : Nat) (x : FileG) (hx : files f = some x) (hs : x.synced ≤ x.data.length) (k : Nat) : ∃ y, (crashTo cs D files k).1 f = some y ∧ Left x y := by
  unfold crashTo
  have : ∀ (l : List (List UInt8)) (a : (Nat → Option FileG) × Nat) (y : FileG), a.1 f = some y → Left x y → ∃ z, (l.foldl (keepS cs D) a).1 f = some z ∧ Left x z := by
    intro l
    induction l with
    | nil => intro a y h1 h2; exact ⟨y, h1, h2⟩
    | cons s r ih =>
      intro a y h1 h2
      rw [List.foldl_cons]
      unfold keepS
      cases hf : fileAt D (.string s) with
      | none => exact ih a y h1 h2
      | some g =>
        cases hg : a.1 g with
        | none => simp only [hg]; exact ih a y h1 h2
        | some z =>
          simp only [hg]
          by_cases e : f = g
          · subst e
            rw [h1] at hg
            cases hg
            exact ih _ (y.cut (pick cs a.2 (y.data.length - y.synced))) (upd_same _ _ _) (h2.cut hs (pick_le _ _ _))
          · exact ih _ y (by simp only [upd_other _ e]; exact h1) h2
  exact this _ (files, 1) x hx (.inl rfl)

theorem pick_nil (j most : Nat) : pick [] j most = 0 := by simp [pick]

theorem right_a : rightB ⟨#[97]⟩ = true := by decide
theorem right_b : rightB ⟨#[98]⟩ = true := by decide

theorem IsDisk.here {w' : World} {B S N b : Nat} {m : Mem} (h : IsDisk w' (fun k => B ≤ k ∨ S ≤ k) N b m) (hB : B ≤ S) : IsDisk w' (fun k => B ≤ k) N b m := h.monoF (fun k hk => by rcases hk with h | h; exact h; exact Nat.le_trans hB h)
theorem Keeps.step {B : Nat} {a b c : World} (h : Keeps (fun k => B ≤ k) a b) (k : Keeps (fun k => B ≤ k) b c) : Keeps (fun k => B ≤ k) a c := h.trans k (fun _ _ h => h)
theorem Keeps.of_none {F : Nat → Prop} {a b : World} (h : a.grownBy b none) : Keeps F a b := Keeps.of_grown h (fun k e _ => by cases e)
theorem Keeps.grown {w w' : World} (h : Keeps (fun k => w.heap.size ≤ k) w w') : w.grownBy w' none := ⟨h.os, h.tape, h.output, h.size, fun k hk _ => h.block k hk (by show ¬ w.heap.size ≤ k; omega)⟩

theorem SrcB.text {w : World} {v : Value} {l : List UInt8} (h : SrcB w v l) : (convert 32 9 v).run Try.prog w = .ok (.string ⟨l.toArray⟩) w := by
  rcases h with ⟨rfl, rfl⟩ | ⟨a, cap, rfl, hc⟩
  · exact Lib.run_convert_nil_bytes w 32 9 5 0 Try.underlying32 Try.underlying5 Try.underlying9
  · refine run_convert_bytes_back w 32 9 5 a cap l Try.underlying32 Try.underlying5 Try.underlying9 (fun j hj => hc j _ ?_)
    simp [u8s, hj]

theorem row_src {w : World} {B : Nat} {v : Value} {l : List UInt8} (h : w.ownsRow B 5 1 v l.length (u8s l)) : SrcB w v l := by
  rcases h.2 with ⟨rfl, h0⟩ | ⟨g, cap, cur, rfl, _⟩
  · exact .inl ⟨rfl, List.length_eq_zero_iff.1 h0⟩
  · exact .inr ⟨_, cap, rfl, fun j u hj => row_cell (row_base h (Nat.zero_le _)) j u hj⟩

theorem size1_le : (1 : Nat) ≤ maxLen := by unfold maxLen; omega

theorem total_one (k : Lit) (f : Nat) (ln : Nat → Nat) : total ((DataW.map []).put k (.lit (.int .i64 f))) ln = ln f := by
  simp [total, DataW.put, DataW.insert, entriesOf, lenAt]
theorem size_one (k : Lit) (d : DataW Unit) : Maps.size ((DataW.map []).put k d) = 1 := by
  simp [DataW.put, DataW.insert, Maps.size]
theorem key_ne {s t : ByteArray} (h : s ≠ t) : key s ≠ key t := by
  intro e
  unfold key at e
  have h1 : s.data.toList = t.data.toList := by simpa using e
  apply h
  cases s; cases t
  simpa using h1
theorem ab_ne : key ⟨#[98]⟩ ≠ key ⟨#[97]⟩ := key_ne (by decide)

theorem xy_src (w : World) : SrcB (w.alloc (.cells #[.int .u8 120, .int .u8 121] 5 (2, 3))) (.slice (some ⟨w.heap.size, 0, none⟩) 2 2) [120, 121] := by
  refine .inr ⟨_, 2, rfl, fun j u hj => ?_⟩
  have hadd : ((⟨w.heap.size, 0, none⟩ : Addr).add j) = ⟨w.heap.size, j, none⟩ := by unfold Addr.add; split <;> simp_all
  rw [hadd]
  have hb := heap_alloc_new w (.cells #[.int .u8 120, .int .u8 121] 5 (2, 3))
  simp only [World.cell?, hb]
  match j, hj with
  | 0, hj => simpa [u8s] using hj
  | 1, hj => simpa [u8s] using hj

set_option maxHeartbeats 2000000 in
theorem knows_any (w : World) : Calls Try.prog 12 #[] w fun e w' => e = .returned (.bool true) ∧ w.grownBy w' none := by
  have hcv := fun (w : World) => Lib.run_convert_bytes_const (P := Try.prog) w 32 5 #[.int .u8 120, .int .u8 121] 2 2 Try.underlying32 Try.underlying5
  go_enter Try.func12, Try.ntmps12
  go_wp2_with fail
  refine (new_ok 100 w (by decide) (by decide)).mono ?_
  rintro e w1 ⟨b, bn, bs, rfl, hI1, g1⟩
  have I1 := hid_mk hI1
  have K1 := hid_mk (Keeps.of_none (F := fun k => w.heap.size ≤ k) g1)
  clear hI1 g1
  go_wp2_with (go_at_call 11; refine (num_any _ _).mono ?_; rintro e w1 ⟨rfl, rfl⟩)
  refine (create_ok 0 b _ _ ⟨#[97]⟩ _ I1.out size1_le right_a (fileAt_empty _) (show (0 : Nat) < 512 by decide) (by decide) rfl (show (-1 : Int) ≠ 0 by decide)).mono ?_
  rintro e w2 ⟨rfl, ⟨f, v, v', hf, hI2⟩, hk2⟩
  obtain ⟨m2, M2⟩ : ∃ m2 : Mem, Hid (IsDisk w2 (fun k => w.heap.size ≤ k) 1 b m2 ∧ m2.names = (DataW.map []).put (key ⟨#[97]⟩) (.lit (.int .i64 f)) ∧ m2.files f = some ⟨.slice none 0 0, [], 0⟩ ∧ m2.gone = false ∧ m2.fuse = -1 ∧ m2.quota = 100) :=
    ⟨_, hI2.here K1.out.size, rfl, upd_same _ _ _, rfl, rfl, rfl⟩
  have K2 := hid_mk (K1.out.step hk2)
  clear hI2 hk2
  go_wp2_with fail
  have I2' := hid_mk (M2.out.1.kept_none (World.grownBy_alloc w2 (.cells #[.int .u8 120, .int .u8 121] 5 (2, 3)) none))
  refine (append_ok 1 b _ m2 ⟨#[97]⟩ f ⟨.slice none 0 0, [], 0⟩ [120, 121] _ _ _ I2'.out (by decide) size1_le right_a (by rw [M2.out.2.1]; exact fileAt_put_same isMap_empty _ _) M2.out.2.2.1 (xy_src w2) (by rw [M2.out.2.1, total_one, M2.out.2.2.2.2.2]; simp [lenOf, M2.out.2.2.1]) M2.out.2.2.2.1 (by rw [M2.out.2.2.2.2.1]; decide)).mono ?_
  rintro e w3 ⟨rfl, ⟨v3, hI3⟩, hk3⟩
  obtain ⟨m3, M3⟩ : ∃ m3 : Mem, Hid (IsDisk w3 (fun k => w.heap.size ≤ k) 1 b m3 ∧ m3.names = (DataW.map []).put (key ⟨#[97]⟩) (.lit (.int .i64 f)) ∧ m3.files f = some ⟨v3, [120, 121], 0⟩ ∧ m3.gone = false ∧ m3.fuse = -1) :=
    ⟨_, hI3.here (Nat.le_trans K2.out.size (by simp)), M2.out.2.1, upd_same _ _ _, M2.out.2.2.2.1, by show spent m2.fuse = -1; rw [M2.out.2.2.2.2.1]; rfl⟩
  have K3 := hid_mk ((K2.out.step (Keeps.of_none (World.grownBy_alloc w2 (.cells #[.int .u8 120, .int .u8 121] 5 (2, 3)) none))).step hk3)
  clear hI3 hk3 I2' hcv
  go_wp2_with fail
  refine (sync_ok 1 b _ m3 ⟨#[97]⟩ f ⟨v3, [120, 121], 0⟩ _ M3.out.1 size1_le right_a (by rw [M3.out.2.1]; exact fileAt_put_same isMap_empty _ _) M3.out.2.2.1 M3.out.2.2.2.1 (by rw [M3.out.2.2.2.2]; decide)).mono ?_
  rintro e w4 ⟨rfl, hI4, hk4⟩
  obtain ⟨m4, M4⟩ : ∃ m4 : Mem, Hid (IsDisk w4 (fun k => w.heap.size ≤ k) 1 b m4 ∧ m4.names = (DataW.map []).put (key ⟨#[97]⟩) (.lit (.int .i64 f)) ∧ m4.files f = some ⟨v3, [120, 121], 2⟩ ∧ m4.gone = false ∧ m4.fuse = -1) :=
    ⟨_, hI4, M3.out.2.1, upd_same _ _ _, M3.out.2.2.2.1, by show spent m3.fuse = -1; rw [M3.out.2.2.2.2]; rfl⟩
  have K4 := hid_mk (K3.out.step hk4)
  clear hI4 hk4
  go_wp2_with fail
  refine (syncdir_ok 1 b _ m4 _ M4.out.1 M4.out.2.2.2.1 (by rw [M4.out.2.2.2.2]; decide)).mono ?_
  rintro e w5 ⟨rfl, ⟨bs5, hI5⟩, hk5⟩
  obtain ⟨m5, M5⟩ : ∃ m5 : Mem, Hid (IsDisk w5 (fun k => w.heap.size ≤ k) 1 b m5 ∧ m5.names = (DataW.map []).put (key ⟨#[97]⟩) (.lit (.int .i64 f)) ∧ m5.synced = (DataW.map []).put (key ⟨#[97]⟩) (.lit (.int .i64 f)) ∧ m5.files f = some ⟨v3, [120, 121], 2⟩ ∧ m5.gone = false ∧ m5.fuse = -1) :=
    ⟨_, hI5.here K4.out.size, M4.out.2.1, M4.out.2.1, M4.out.2.2.1, M4.out.2.2.2.1, by show spent m4.fuse = -1; rw [M4.out.2.2.2.2]; rfl⟩
  have K5 := hid_mk (K4.out.step hk5)
  clear hI5 hk5
  go_wp2_with fail
  refine (create_ok 1 b _ m5 ⟨#[98]⟩ _ M5.out.1 size1_le right_b (by rw [M5.out.2.1, fileAt_put_other ab_ne]; exact fileAt_empty _) (by rw [M5.out.2.1, size_one]; decide) (by decide) M5.out.2.2.2.2.1 (by rw [M5.out.2.2.2.2.2]; decide)).mono ?_
  rintro e w6 ⟨rfl, ⟨f6, v6, v6', hf6, hI6⟩, hk6⟩
  have hff : f ≠ f6 := by
    have h1 := (M5.out.1.rest.file f _ M5.out.2.2.2.1).2.1.lt
    omega
  obtain ⟨m6, M6⟩ : ∃ m6 : Mem, Hid (IsDisk w6 (fun k => w.heap.size ≤ k) 2 b m6 ∧ m6.synced = (DataW.map []).put (key ⟨#[97]⟩) (.lit (.int .i64 f)) ∧ m6.files f = some ⟨v3, [120, 121], 2⟩) :=
    ⟨_, hI6.here K5.out.size, M5.out.2.2.1, by show upd _ _ _ _ = _; rw [upd_other _ hff]; exact M5.out.2.2.2.1⟩
  have K6 := hid_mk (K5.out.step hk6)
  clear hI6 hk6
  go_wp2_with fail
  refine (crash_ok 2 b _ m6 (.slice none 0 0) [] _ M6.out.1 (by decide) ⟨fun z hz => (by cases hz), by decide, .inl ⟨⟨_, _, rfl⟩, rfl⟩⟩ (fun g off cap hp hv => by cases hv)).mono ?_
  rintro e w7 ⟨rfl, ⟨bm7, bs7, hI7⟩, hk7⟩
  obtain ⟨x7, hx7, hl7⟩ := crashTo_left [] (replay m6.chs (pick [] 0 m6.chs.length) m6.synced) m6.files f ⟨v3, [120, 121], 2⟩ M6.out.2.2 (Nat.le_refl 2) (sortedKeys (replay m6.chs (pick [] 0 m6.chs.length) m6.synced)).length
  have hd7 : x7.data = [120, 121] := by
    rcases hl7 with rfl | ⟨h1, h2, h3⟩
    · rfl
    · have : x7.synced = 2 := by simp at h2 h3; omega
      rw [h1, this]; rfl
  obtain ⟨m7, M7⟩ : ∃ m7 : Mem, Hid (IsDisk w7 (fun k => w.heap.size ≤ k) 2 b m7 ∧ m7.names = (DataW.map []).put (key ⟨#[97]⟩) (.lit (.int .i64 f)) ∧ m7.files f = some x7) :=
    ⟨_, hI7.here K6.out.size, by show replay m6.chs (pick [] 0 m6.chs.length) m6.synced = _; rw [pick_nil, replay_zero]; exact M6.out.2.1, hx7⟩
  have K7 := hid_mk (K6.out.step hk7)
  have HD7 := hid_mk hd7
  clear hI7 hk7 hx7 hl7 hd7
  go_wp2_with fail
  refine (read_ok 2 b _ m7 ⟨#[97]⟩ f x7 _ M7.out.1 size1_le right_a (by rw [M7.out.2.1]; exact fileAt_put_same isMap_empty _ _) M7.out.2.2).mono ?_
  rintro e w8 ⟨v8, rfl, hrow8, hg8⟩
  have hs8 := row_src hrow8
  rw [HD7.out] at hs8
  have S8 := hid_mk hs8
  have I8 := hid_mk (M7.out.1.kept_none hg8)
  have K8 := hid_mk (K7.out.step (Keeps.of_none hg8))
  clear hrow8 hg8 hs8
  go_wp2_with fail
  refine (read_none 2 b _ m7 ⟨#[98]⟩ _ I8.out size1_le right_b (by rw [M7.out.2.1, fileAt_put_other ab_ne]; exact fileAt_empty _)).mono ?_
  rintro e w8 ⟨rfl, rfl⟩
  have htxt := S8.out.text
  go_wp2_with (go_at_call 11; refine (num_any _ _).mono ?_; rintro e w8 ⟨rfl, rfl⟩)
  go_ret
  exact ⟨rfl, K8.out.grown⟩

end Go.Proofs.Ytopablemfajecaa
