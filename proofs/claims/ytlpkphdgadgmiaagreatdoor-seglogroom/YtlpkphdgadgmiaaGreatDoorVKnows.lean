/- Directories and crashes, in plain words; knows. -/
import Derived.Test.YtlpkphdgadgmiaaGreatDoorVCrashC
import Derived.Lib.SlBytesConst
import Derived.Lib.BufferRead
import Derived.Laws.IdiomStrings
namespace Go.Proofs.YtlpkphdgadgmiaaGreatDoor.V
set_option maxRecDepth 100000
open Go.RowKit Go.Maps Go.WideMaps Go.WideElems
set_option linter.unusedVariables false
set_option linter.unusedSimpArgs false

theorem fileAt_put_same {D : DataW Unit} (hD : IsMap D) (s : ByteArray) (f : Nat) : fileAt (D.put (key s) (.lit (.int .i64 f))) (key s) = some f := by
  unfold fileAt
  rw [atKey_put_same hD (by trivial)]
  simp
theorem fileAt_put_other {D : DataW Unit} {s t : ByteArray} (h : key t ≠ key s) (d : DataW Unit) : fileAt (D.put (key s) d) (key t) = fileAt D (key t) := by
  unfold fileAt
  rw [atKey_put_other h]
theorem fileAt_del_same {D : DataW Unit} (s : ByteArray) : fileAt (D.del (key s)) (key s) = none := by
  unfold fileAt
  rw [atKey_del_same]
  simp
theorem fileAt_del_other {D : DataW Unit} {s t : ByteArray} (h : key t ≠ key s) : fileAt (D.del (key s)) (key t) = fileAt D (key t) := by
  unfold fileAt
  rw [atKey_del_other h]
theorem fileAt_empty (k : Lit) : fileAt (.map []) k = none := by simp [fileAt, DataW.atKey]

/-- What a crash leaves of a file: all of it, or first bytes, the synced ones at least. -/
def Left (x y : FileG) : Prop := y = x ∨ (y.data = x.data.take y.synced ∧ x.synced ≤ y.synced ∧ y.synced ≤ x.data.length)

theorem Left.cut {x y : FileG} (h : Left x y) (hx : x.synced ≤ x.data.length) {n : Nat} (hn : n ≤ y.data.length - y.synced) : Left x (y.cut n) := by
  rcases h with rfl | ⟨h1, h2, h3⟩
  · exact .inr ⟨rfl, by simp [FileG.cut], by simp [FileG.cut]; omega⟩
  · have hl : y.data.length = y.synced := by rw [h1]; simp; omega
    have hn0 : n = 0 := by omega
    subst hn0
    refine .inr ⟨?_, by simpa [FileG.cut] using h2, by simpa [FileG.cut] using h3⟩
    simp [FileG.cut, h1, List.take_take]

theorem crashTo_left (cs : List Int) (D : DataW Unit) (files : Nat → Option FileG) (f : Nat) (x : FileG) (hx : files f = some x) (hs : x.synced ≤ x.data.length) (k : Nat) : ∃ y, (crashTo cs D files k).1 f = some y ∧ Left x y := by
  unfold crashTo
  have : ∀ (l : List (List UInt8)) (a : (Nat → Option FileG) × Nat) (y : FileG), a.1 f = some y → Left x y → ∃ z, (l.foldl (keepS cs D) a).1 f = some z ∧ Left x z := by
    intro l
    induction l with
    | nil => intro a y h1 h2; exact ⟨y, h1, h2⟩
    | cons s r ih =>
      intro a y h1 h2
      rw [List.foldl_cons]
      unfold keepS
      cases hf : fileAt D (.string s) with
      | none => exact ih a y h1 h2
      | some g =>
        cases hg : a.1 g with
        | none => simp only [hg]; exact ih a y h1 h2
        | some z =>
          simp only [hg]
          by_cases e : f = g
          · subst e
            rw [h1] at hg
            cases hg
            exact ih _ (y.cut (pick cs a.2 (y.data.length - y.synced))) (upd_same _ _ _) (h2.cut hs (pick_le _ _ _))
          · exact ih _ y (by simp only [upd_other _ e]; exact h1) h2
  exact this _ (files, 1) x hx (.inl rfl)

theorem pick_nil (j most : Nat) : pick [] j most = 0 := by simp [pick]

theorem right_a : rightB ⟨#[97]⟩ = true := by decide
theorem right_b : rightB ⟨#[98]⟩ = true := by decide

theorem IsDisk.here {w' : World} {B S N b : Nat} {m : Mem} (h : IsDisk w' (fun k => B ≤ k ∨ S ≤ k) N b m) (hB : B ≤ S) : IsDisk w' (fun k => B ≤ k) N b m := h.monoF (fun k hk => by rcases hk with h | h; exact h; exact Nat.le_trans hB h)
theorem Keeps.step {B : Nat} {a b c : World} (h : Keeps (fun k => B ≤ k) a b) (k : Keeps (fun k => B ≤ k) b c) : Keeps (fun k => B ≤ k) a c := h.trans k (fun _ _ h => h)
theorem Keeps.of_none {F : Nat → Prop} {a b : World} (h : a.grownBy b none) : Keeps F a b := Keeps.of_grown h (fun k e _ => by cases e)
theorem Keeps.grown {w w' : World} (h : Keeps (fun k => w.heap.size ≤ k) w w') : w.grownBy w' none := ⟨h.os, h.tape, h.output, h.size, fun k hk _ => h.block k hk (by show ¬ w.heap.size ≤ k; omega)⟩

theorem SrcB.text {w : World} {v : Value} {l : List UInt8} (h : SrcB w v l) : (convert 49 9 v).run Tryz.prog w = .ok (.string ⟨l.toArray⟩) w := by
  rcases h with ⟨rfl, rfl⟩ | ⟨a, cap, rfl, hc⟩
  · exact Lib.run_convert_nil_bytes w 49 9 5 0 Tryz.underlying49 Tryz.underlying5 Tryz.underlying9
  · refine run_convert_bytes_back w 49 9 5 a cap l Tryz.underlying49 Tryz.underlying5 Tryz.underlying9 (fun j hj => hc j _ ?_)
    simp [u8s, hj]

theorem row_src {w : World} {B : Nat} {v : Value} {l : List UInt8} (h : w.ownsRow B 5 1 v l.length (u8s l)) : SrcB w v l := by
  rcases h.2 with ⟨rfl, h0⟩ | ⟨g, cap, cur, rfl, _⟩
  · exact .inl ⟨rfl, List.length_eq_zero_iff.1 h0⟩
  · exact .inr ⟨_, cap, rfl, fun j u hj => row_cell (row_base h (Nat.zero_le _)) j u hj⟩

theorem size1_le : (1 : Nat) ≤ maxLen := by unfold maxLen; omega

theorem total_one (k : Lit) (f : Nat) (ln : Nat → Nat) : total ((DataW.map []).put k (.lit (.int .i64 f))) ln = ln f := by
  simp [total, DataW.put, DataW.insert, entriesOf, lenAt]
theorem size_one (k : Lit) (d : DataW Unit) : Maps.size ((DataW.map []).put k d) = 1 := by
  simp [DataW.put, DataW.insert, Maps.size]
theorem key_ne {s t : ByteArray} (h : s ≠ t) : key s ≠ key t := by
  intro e
  unfold key at e
  have h1 : s.data.toList = t.data.toList := by simpa using e
  apply h
  cases s; cases t
  simpa using h1
theorem ab_ne : key ⟨#[98]⟩ ≠ key ⟨#[97]⟩ := key_ne (by decide)

theorem xy_src (w : World) : SrcB (w.alloc (.cells #[.int .u8 120, .int .u8 121] 5 (2, 3))) (.slice (some ⟨w.heap.size, 0, none⟩) 2 2) [120, 121] := by
  refine .inr ⟨_, 2, rfl, fun j u hj => ?_⟩
  have hadd : ((⟨w.heap.size, 0, none⟩ : Addr).add j) = ⟨w.heap.size, j, none⟩ := by unfold Addr.add; split <;> simp_all
  rw [hadd]
  have hb := heap_alloc_new w (.cells #[.int .u8 120, .int .u8 121] 5 (2, 3))
  simp only [World.cell?, hb]
  match j, hj with
  | 0, hj => simpa [u8s] using hj
  | 1, hj => simpa [u8s] using hj

end Go.Proofs.YtlpkphdgadgmiaaGreatDoor.V
