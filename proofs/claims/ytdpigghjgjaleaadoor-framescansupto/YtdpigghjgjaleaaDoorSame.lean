/- Frames that came in; same. -/
import Derived.Test.YtdpigghjgjaleaaDoorRPut
namespace Go.Proofs.YtdpigghjgjaleaaDoor
open Go.RowKit Go.Maps
set_option linter.unusedVariables false
set_option linter.unusedSimpArgs false

/-- A frame that came in. -/
structure RF where
  kind : Int
  d : List UInt8
  dv : Value
/-- Frames that can be read. -/
def Frs (W : World) (lv : Value) (fs : List RF) : Prop :=
  (fs = [] ∧ ∃ a cap, lv = .slice a 0 cap ∧ (a = none → cap = 0)) ∨ ∃ b off cap, lv = .slice (some ⟨b, off, none⟩) fs.length cap ∧ fs.length ≤ cap ∧
    ∀ (i : Nat) f, fs[i]? = some f → W.cell? ⟨b, off + i * 2, none⟩ = some (.int .i64 f.kind) ∧ W.cell? ⟨b, off + i * 2 + 1, none⟩ = some f.dv ∧ Byt W f.dv f.d ∧ f.d.length + 2 ≤ 140737488355328
theorem Frs.len {W : World} {lv : Value} {fs : List RF} (h : Frs W lv fs) : ∃ a cap, lv = .slice a fs.length cap := by
  rcases h with ⟨rfl, a, cap, rfl, _⟩ | ⟨b, off, cap, rfl, _⟩
  · exact ⟨_, _, rfl⟩
  · exact ⟨_, _, rfl⟩
theorem Frs.kept {W W' : World} {lv : Value} {fs : List RF} (h : Frs W lv fs) (hg : W.grownBy W' none) : Frs W' lv fs := by
  rcases h with h | ⟨b, off, cap, hv, hl, hc⟩
  · exact .inl h
  · refine .inr ⟨b, off, cap, hv, hl, fun i f hf => ?_⟩
    obtain ⟨h1, h2, h3, h4⟩ := hc i f hf
    exact ⟨hg.cell h1 (by simp), hg.cell h2 (by simp), h3.kept hg, h4⟩
theorem Frs.at {W : World} {lv : Value} {fs : List RF} (h : Frs W lv fs) (h0 : 0 < fs.length) : ∃ b off cap, lv = .slice (some ⟨b, off, none⟩) fs.length cap ∧ fs.length ≤ cap ∧
    ∀ (i : Nat) f, fs[i]? = some f → W.cell? ⟨b, off + i * 2, none⟩ = some (.int .i64 f.kind) ∧ W.cell? ⟨b, off + i * 2 + 1, none⟩ = some f.dv ∧ Byt W f.dv f.d ∧ f.d.length + 2 ≤ 140737488355328 := by
  rcases h with ⟨rfl, _⟩ | h
  · simp at h0
  · exact h
theorem elem40 : Tryd.prog.elem 40 = 60 := by kernel_rfl
theorem under40 : Tryd.prog.underlying 40 = some (.slice (Tryd.prog.elem 40)) := by rw [elem40]; exact Tryd.underlying40
/-- The first of them. -/
theorem Frs.take {W : World} {lv : Value} {fs : List RF} (h : Frs W lv fs) (n : Nat) (hn : n ≤ fs.length) :
    ∃ a c, (∀ w', (Instr.slice 40 lv none (some (.int .i64 n)) none).run Tryd.prog w' = .ok (.slice a n c) w') ∧ Frs W (.slice a n c) (fs.take n) := by
  have hlen : (fs.take n).length = n := by simp; omega
  have run : ∀ (a : Option Addr) (L cap : Nat), n ≤ cap → (L = 0 → True) → ∀ w', (Instr.slice 40 (.slice a L cap) none (some (.int .i64 n)) none).run Tryd.prog w' = .ok (.slice a n cap) w' := fun a L cap hc _ w' => by
    rw [run_slice_h w' 40 a L cap under40 .i64 n (by omega) (by omega), elem40, Tryd.sizeOf60 w']
    have e2 : (if cap = 0 then a else a.map (fun x => x.add (0 * 2))) = a := by
      split
      · rfl
      · cases a <;> simp [Addr.add]
    simp [Result.andThen, sliced, e2]
  rcases h with ⟨rfl, a, cap, rfl, hnn⟩ | ⟨b, off, cap, rfl, hl, hc⟩
  · have h0 : n = 0 := by simpa using hn
    subst h0
    exact ⟨a, cap, run a 0 cap (Nat.zero_le _) (fun _ => trivial), .inl ⟨by simp, a, cap, rfl, hnn⟩⟩
  · refine ⟨_, cap, run _ _ cap (by omega) (fun _ => trivial), .inr ⟨b, off, cap, by rw [hlen], by rw [hlen]; omega, fun i f hf => ?_⟩⟩
    rw [List.getElem?_take] at hf
    split at hf
    · exact hc i f hf
    · cases hf

/-- Are they the same? -/
def Alike (s : List Fr) (fs : List RF) : Prop := s.map (fun f => ((f.k.toNat : Int), f.d)) = fs.map (fun f => (f.kind, f.d))
theorem Alike.len {s : List Fr} {fs : List RF} (h : Alike s fs) : s.length = fs.length := by
  have := congrArg List.length h; simpa using this
theorem Alike.at {s : List Fr} {fs : List RF} (h : Alike s fs) (i : Nat) (f : Fr) (g : RF) (hf : s[i]? = some f) (hg : fs[i]? = some g) : (f.k.toNat : Int) = g.kind ∧ f.d = g.d := by
  have := congrArg (fun l => l[i]?) h
  simp [hf, hg] at this
  exact this

set_option maxHeartbeats 2000000 in
theorem same_any (n₀ : Nat) (lv : Value) (s : List Fr) (fv : Value) (fs : List RF) (w : World) (hs : Row w n₀ lv s) (hf : Frs w fv fs) (ha : Alike s fs) (hl : s.length ≤ 100000000) :
    Calls Tryd.prog 21 #[lv, fv] w fun e w' => e = .returned (.bool true) ∧ w.grownBy w' none := by
  have hlen := ha.len
  by_cases h0 : s.length = 0
  · obtain ⟨la, lc, rfl⟩ := row_shape hs.1
    obtain ⟨fa, fc, rfl⟩ := hf.len
    rw [← hlen]
    clear hs hf ha
    generalize s.length = n at *
    subst h0
    go_enter Tryd.func21, Tryd.ntmps21
    go_wp2
    go_loop [5] (fun i => i = .int .i64 0) (fun _ => 0)
    case atStart => rfl
    case round =>
      subst hrel
      go_wp2
      go_ret
      exact ⟨rfl, grown_refl _ _⟩
  · obtain ⟨gr, gc, rfl, hcap, hcs⟩ := hs.at (by omega)
    obtain ⟨b, off, fc, rfl, hfc, hfs⟩ := hf.at (by omega)
    have HS := hid_mk (And.intro hcs hs.2)
    have HF := hid_mk hfs
    have HA := hid_mk ha
    have HL := hid_mk hlen
    rw [← hlen] at hfc ⊢
    clear hs hf ha hcs hfs hlen
    obtain ⟨n, hn⟩ : ∃ n, n = s.length := ⟨_, rfl⟩
    rw [← hn] at hfc hcap hl h0 ⊢
    have HN := hid_mk hn
    clear hn
    go_enter Tryd.func21, Tryd.ntmps21
    go_wp2
    go_loopw [5] (fun i wr => ∃ j : Nat, j ≤ n ∧ i = .int .i64 j ∧ Hid (w.grownBy wr none)) (fun i _ => n - (intOf i).toNat)
    case atStart => exact ⟨0, Nat.zero_le _, rfl, hid_mk (grown_refl _ _)⟩
    case round =>
      obtain ⟨j, hj, rfl, HG⟩ := hrel
      by_cases hlt : j < n
      · have hjs : j < s.length := by have := HN.out; omega
        have hjf : j < fs.length := by have := HL.out; omega
        obtain ⟨f, hf⟩ : ∃ f, s[j]? = some f := ⟨_, List.getElem?_eq_getElem hjs⟩
        obtain ⟨g, hg⟩ : ∃ g, fs[j]? = some g := ⟨_, List.getElem?_eq_getElem hjf⟩
        obtain ⟨ek, ed⟩ := HA.out.at j f g hf hg
        obtain ⟨a1, a2⟩ := HS.out.1 j f hf
        obtain ⟨b1, b2, b3, _⟩ := HF.out j g hg
        have a3 := (HS.out.2 f (List.mem_of_getElem? hf)).byt
        have G : ∀ nq, w.grownBy (wr.drewN nq) none := fun nq => grown_trans HG.out (grown_drewN _ _ none)
        have A1 : ∀ nq, (wr.drewN nq).cell? ⟨gr, j * 2, none⟩ = some (.int .i64 f.k.toNat) := fun nq => by rw [Nat.mul_comm]; exact (G nq).cell a1 (by simp)
        have A2 : ∀ nq, (wr.drewN nq).cell? ⟨gr, j * 2 + 1, none⟩ = some f.dv := fun nq => by rw [Nat.mul_comm]; exact (G nq).cell a2 (by simp)
        have B1 : ∀ nq, (wr.drewN nq).cell? ⟨b, off + j * 2, none⟩ = some (.int .i64 f.k.toNat) := fun nq => by rw [ek]; exact (G nq).cell b1 (by simp)
        have B2 : ∀ nq, (wr.drewN nq).cell? ⟨b, off + j * 2 + 1, none⟩ = some g.dv := fun nq => (G nq).cell b2 (by simp)
        have T1 := fun nq => (a3.kept (G nq)).text
        have T2 := fun nq => (b3.kept (G nq)).text
        rw [← ed] at T2
        obtain ⟨fa, fcc, hfd⟩ := a3.len
        obtain ⟨ga, gcc, hgd⟩ := b3.len
        rw [hfd] at A2 T1
        rw [hgd] at B2 T2
        generalize f.d.length = m1 at *
        generalize g.d.length = m2 at *
        generalize f.d = fd at *
        clear a1 a2 b1 b2 b3 a3 ek ed G hf hg hfd hgd
        have hI : (j : Int) < (n : Int) := by omega
        have hI0 : (0 : Int) ≤ (j : Int) := by omega
        go_wp2
        go_quiet (fail)
        go_wp2
        go_roundw
        case rel => exact ⟨j + 1, by omega, by go_num, hid_mk (grown_trans HG.out (grown_drewN _ _ none))⟩
        case measure => simp [intOf]; omega
      · have hjn : j = n := by omega
        subst hjn
        go_wp2
        go_ret
        exact ⟨rfl, HG.out⟩

end Go.Proofs.YtdpigghjgjaleaaDoor
