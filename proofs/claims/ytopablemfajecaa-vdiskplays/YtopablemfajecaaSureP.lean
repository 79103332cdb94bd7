/- VdiskSure, in plain words: what stays sure, and that a second crash changes nothing. -/
import Derived.Test.YtopablemfajecaaAnyB
namespace Go.Proofs.Ytopablemfajecaa
open Go.RowKit Go.Maps Go.WideMaps Go.WideElems Go.Sort Go.Shelf
set_option linter.unusedVariables false
set_option linter.unusedSimpArgs false

/-- A change that does not touch the name s. -/
def Apar (s : ByteArray) (c : Chg) : Prop := key s ≠ key c.name ∧ (c.kind = 1 → key s ≠ key c.to)

theorem Apar.on {s : ByteArray} {c : Chg} (h : Apar s c) (D : DataW Unit) : fileAt (c.on D) (key s) = fileAt D (key s) := by
  unfold Chg.on
  split
  · exact fileAt_put_other h.1 _
  · split
    · rename_i hk; rw [fileAt_put_other (h.2 hk), fileAt_del_other h.1]
    · exact fileAt_del_other h.1

theorem replay_apar {s : ByteArray} {chs : List (Value × Chg)} (h : ∀ c ∈ chs, Apar s c.2) (k : Nat) (D : DataW Unit) : fileAt (replay chs k D) (key s) = fileAt D (key s) := by
  unfold replay
  have : ∀ (l : List (Value × Chg)) (D : DataW Unit), (∀ c ∈ l, Apar s c.2) → fileAt (l.foldl (fun D c => c.2.on D) D) (key s) = fileAt D (key s) := by
    intro l
    induction l with
    | nil => intro D _; rfl
    | cons c r ih => intro D hl; rw [List.foldl_cons, ih _ (fun d hd => hl d (by simp [hd])), (hl c (by simp)).on]
  exact this _ D (fun c hc => h c (List.mem_of_mem_take hc))

/-- The name s is sure, with the bytes bb at its file's beginning, synced; the power is there without a fuse. -/
def Sure (s : ByteArray) (bb : List UInt8) (m : Mem) : Prop :=
  m.gone = false ∧ m.fuse = -1 ∧ (∀ c ∈ m.chs, Apar s c.2) ∧ ∃ f x, fileAt m.names (key s) = some f ∧ fileAt m.synced (key s) = some f ∧ m.files f = some x ∧ bb.length ≤ x.synced ∧ x.synced ≤ x.data.length ∧ x.data.take bb.length = bb

def DoSpec (kd : Int) (s t : ByteArray) (l : List UInt8) (m : Mem) (n : Int) (m' : Mem) : Prop :=
  (kd = 0 ∧ CreateSpec s m n m') ∨ (kd = 1 ∧ AppendSpec s l m n m') ∨ (kd = 2 ∧ SyncSpec s m n m') ∨ (kd = 3 ∧ SyncDirSpec m n m') ∨ (kd = 4 ∧ RenameSpec s t m n m') ∨ (kd = 5 ∧ RemoveSpec s m n m') ∨ ((kd < 0 ∨ 5 < kd) ∧ n = 0 ∧ m' = m)

theorem apar_snoc {u : ByteArray} {chs : List (Value × Chg)} {v : Value} {c : Chg} (h : ∀ c ∈ chs, Apar u c.2) (hc : Apar u c) : ∀ d ∈ chs ++ [(v, c)], Apar u d.2 := by
  intro d hd
  rcases List.mem_append.1 hd with hd | hd
  · exact h d hd
  · cases List.mem_singleton.1 hd; exact hc

theorem Sure.step {u : ByteArray} {bb : List UInt8} {kd n : Int} {s t : ByteArray} {l : List UInt8} {m m' : Mem} (h : Sure u bb m) (hm : IsMap m.names) (hg : 3 < kd → key u ≠ key s ∧ key u ≠ key t) (hd : DoSpec kd s t l m n m') : Sure u bb m' := by
  obtain ⟨g, fu, hch, f, x, hn, hs, hx, h1, h2, h3⟩ := h
  have hfu : m.fuse ≠ 0 := by rw [fu]; decide
  have hnp := not_power g hfu
  have hsp : spent m.fuse = -1 := by rw [fu]; rfl
  have keep : Sure u bb m := ⟨g, fu, hch, f, x, hn, hs, hx, h1, h2, h3⟩
  rcases hd with ⟨_, hd⟩ | ⟨_, hd⟩ | ⟨_, hd⟩ | ⟨_, hd⟩ | ⟨hk, hd⟩ | ⟨hk, hd⟩ | ⟨_, _, rfl⟩
  · rcases hd with ⟨_, _, rfl⟩ | ⟨_, _, _, rfl⟩ | ⟨_, _, _, _, rfl⟩ | ⟨_, _, _, h, _⟩ | ⟨_, hf, _, _, _, _, f', v, v', hfr, rfl⟩
    · exact keep
    · exact keep
    · exact keep
    · exact absurd h hnp
    · have hne : key u ≠ key s := fun e => by rw [← e, hn] at hf; cases hf
      have hff : f ≠ f' := fun e => by rw [← e, hx] at hfr; cases hfr
      exact ⟨g, hsp, apar_snoc hch ⟨hne, fun h => by cases h⟩, f, x, by show fileAt (m.names.put _ _) _ = _; rw [fileAt_put_other hne]; exact hn, hs, by show upd _ _ _ _ = _; rw [upd_other _ hff]; exact hx, h1, h2, h3⟩
  · rcases hd with ⟨_, _, rfl⟩ | ⟨_, _, _, rfl⟩ | ⟨f', y, _, _, hy, ⟨_, _, rfl⟩ | ⟨_, h, _⟩ | ⟨_, _, _, _, v', rfl⟩⟩
    · exact keep
    · exact keep
    · exact keep
    · exact absurd h hnp
    · by_cases e : f = f'
      · subst e
        rw [hx] at hy; cases hy
        refine ⟨g, hsp, hch, f, ⟨v', x.data ++ l, x.synced⟩, hn, hs, upd_same _ _ _, h1, by simp; omega, ?_⟩
        show (x.data ++ l).take bb.length = bb
        rw [List.take_append_of_le_length (by omega)]; exact h3
      · exact ⟨g, hsp, hch, f, x, hn, hs, by show upd _ _ _ _ = _; rw [upd_other _ e]; exact hx, h1, h2, h3⟩
  · rcases hd with ⟨_, _, rfl⟩ | ⟨_, _, _, rfl⟩ | ⟨f', y, _, _, hy, ⟨h, _⟩ | ⟨_, _, _, rfl⟩⟩
    · exact keep
    · exact keep
    · exact absurd h hnp
    · by_cases e : f = f'
      · subst e
        rw [hx] at hy; cases hy
        exact ⟨g, hsp, hch, f, { x with synced := x.data.length }, hn, hs, upd_same _ _ _, by show bb.length ≤ x.data.length; omega, Nat.le_refl _, h3⟩
      · exact ⟨g, hsp, hch, f, x, hn, hs, by show upd _ _ _ _ = _; rw [upd_other _ e]; exact hx, h1, h2, h3⟩
  · rcases hd with ⟨h, _⟩ | ⟨_, _, _, bs', rfl⟩
    · exact absurd h hnp
    · exact ⟨g, hsp, fun c hc => by simp at hc, f, x, hn, hn, hx, h1, h2, h3⟩
  · obtain ⟨k1, k2⟩ := hg (by omega)
    rcases hd with ⟨_, _, rfl⟩ | ⟨_, _, _, _, rfl⟩ | ⟨f', _, _, _, ⟨h, _⟩ | ⟨_, _, _, v, v', rfl⟩⟩
    · exact keep
    · exact keep
    · exact absurd h hnp
    · exact ⟨g, hsp, apar_snoc hch ⟨k1, fun _ => k2⟩, f, x, by show fileAt ((m.names.del _).put _ _) _ = _; rw [fileAt_put_other k2, fileAt_del_other k1]; exact hn, hs, hx, h1, h2, h3⟩
  · obtain ⟨k1, k2⟩ := hg (by omega)
    rcases hd with ⟨_, _, rfl⟩ | ⟨_, _, _, rfl⟩ | ⟨f', _, _, ⟨h, _⟩ | ⟨_, _, _, v, v', rfl⟩⟩
    · exact keep
    · exact keep
    · exact absurd h hnp
    · exact ⟨g, hsp, apar_snoc hch ⟨k1, fun h => by cases h⟩, f, x, by show fileAt (m.names.del _) _ = _; rw [fileAt_del_other k1]; exact hn, hs, hx, h1, h2, h3⟩
  · exact keep

/-- Behind a crash the sure bytes are there. -/
theorem Sure.crash {u : ByteArray} {bb : List UInt8} {m : Mem} (h : Sure u bb m) (cs : List Int) (bm bs : Nat) : ∃ f y, fileAt (crashed cs m bm bs).names (key u) = some f ∧ (crashed cs m bm bs).files f = some y ∧ bb.length ≤ y.data.length ∧ y.data.take bb.length = bb := by
  obtain ⟨g, fu, hch, f, x, hn, hs, hx, h1, h2, h3⟩ := h
  obtain ⟨y, hy, hl⟩ := crashTo_left cs (replay m.chs (pick cs 0 m.chs.length) m.synced) m.files f x hx h2 (sortedKeys (replay m.chs (pick cs 0 m.chs.length) m.synced)).length
  refine ⟨f, y, ?_, hy, ?_, ?_⟩
  · show fileAt (replay _ _ _) _ = _
    rw [replay_apar hch]; exact hs
  · rcases hl with rfl | ⟨e1, e2, e3⟩
    · omega
    · rw [e1]; simp; omega
  · rcases hl with rfl | ⟨e1, e2, e3⟩
    · exact h3
    · rw [e1, List.take_take, Nat.min_eq_left (by omega)]; exact h3

/-- All files of a directory are synced whole. -/
def Whole (D : DataW Unit) (files : Nat → Option FileG) : Prop := ∀ s f x, s ∈ sortedKeys D → fileAt D (.string s) = some f → files f = some x → x.synced = x.data.length

theorem cut_whole (x : FileG) (n : Nat) (h : x.synced + n ≤ x.data.length) : (x.cut n).synced = (x.cut n).data.length := by
  simp [FileG.cut]; omega

theorem keepS_whole (cs : List Int) (D : DataW Unit) (a : (Nat → Option FileG) × Nat) (t : List UInt8) (hok : ∀ f x, a.1 f = some x → x.synced ≤ x.data.length) : (∀ f x, (keepS cs D a t).1 f = some x → x.synced ≤ x.data.length) ∧
    (∀ f x, a.1 f = some x → x.synced = x.data.length → ∃ y, (keepS cs D a t).1 f = some y ∧ y.synced = y.data.length) ∧ (∀ f x, fileAt D (.string t) = some f → a.1 f = some x → ∃ y, (keepS cs D a t).1 f = some y ∧ y.synced = y.data.length) := by
  unfold keepS
  cases hf : fileAt D (.string t) with
  | none => exact ⟨hok, fun f x h1 h2 => ⟨x, h1, h2⟩, fun f x h => by cases h⟩
  | some g =>
    cases hg : a.1 g with
    | none => simp only [hg]; exact ⟨hok, fun f x h1 h2 => ⟨x, h1, h2⟩, fun f x h h' => by cases h; rw [hg] at h'; cases h'⟩
    | some z =>
      simp only [hg]
      have hz := hok g z hg
      have hp := pick_le cs a.2 (z.data.length - z.synced)
      have hw := cut_whole z (pick cs a.2 (z.data.length - z.synced)) (by omega)
      refine ⟨fun f x h => ?_, fun f x h1 h2 => ?_, fun f x h h' => ?_⟩
      · rcases upd_cases h with ⟨_, rfl⟩ | ⟨_, h⟩
        · omega
        · exact hok f x h
      · by_cases e : f = g
        · subst e; exact ⟨_, upd_same _ _ _, hw⟩
        · exact ⟨x, by rw [upd_other _ e]; exact h1, h2⟩
      · cases h; exact ⟨_, upd_same _ _ _, hw⟩

theorem fold_whole (cs : List Int) (D : DataW Unit) : ∀ (l : List (List UInt8)) (a : (Nat → Option FileG) × Nat), (∀ f x, a.1 f = some x → x.synced ≤ x.data.length) →
    (∀ f x, a.1 f = some x → x.synced = x.data.length → ∃ y, (l.foldl (keepS cs D) a).1 f = some y ∧ y.synced = y.data.length) ∧ (∀ s f x, s ∈ l → fileAt D (.string s) = some f → a.1 f = some x → ∃ y, (l.foldl (keepS cs D) a).1 f = some y ∧ y.synced = y.data.length)
  | [], a, _ => ⟨fun f x h1 h2 => ⟨x, h1, h2⟩, fun s f x h => by cases h⟩
  | t :: r, a, hok => by
    obtain ⟨k1, k2, k3⟩ := keepS_whole cs D a t hok
    obtain ⟨r1, r2⟩ := fold_whole cs D r (keepS cs D a t) k1
    refine ⟨fun f x h1 h2 => ?_, fun s f x hs hf hx => ?_⟩
    · obtain ⟨y, hy, hw⟩ := k2 f x h1 h2
      exact r1 f y hy hw
    · rcases List.mem_cons.1 hs with rfl | hs
      · obtain ⟨y, hy, hw⟩ := k3 f x hf hx
        exact r1 f y hy hw
      · have hex : ∃ y, (keepS cs D a t).1 f = some y := by
          unfold keepS
          split
          · split
            · exact upd_some hx
            · exact ⟨x, hx⟩
          · exact ⟨x, hx⟩
        obtain ⟨y, hy⟩ := hex
        exact r2 s f y hs hf hy

theorem crash_whole (cs : List Int) (D : DataW Unit) (files : Nat → Option FileG) (hok : ∀ f x, files f = some x → x.synced ≤ x.data.length) (hex : ∀ s f, s ∈ sortedKeys D → fileAt D (.string s) = some f → ∃ x, files f = some x) : Whole D (crashTo cs D files (sortedKeys D).length).1 := by
  intro s f x hs hf hx
  unfold crashTo at hx
  rw [List.take_length] at hx
  obtain ⟨x0, hx0⟩ := hex s f hs hf
  obtain ⟨y, hy, hw⟩ := (fold_whole cs D (sortedKeys D) (files, 1) hok).2 s f x0 hs hf hx0
  rw [hx] at hy
  cases hy
  exact hw

/-- Where all is synced whole a crash changes no bytes. -/
theorem crash_still (cs : List Int) (D : DataW Unit) (files : Nat → Option FileG) (hw : Whole D files) (f : Nat) : ((crashTo cs D files (sortedKeys D).length).1 f).map FileG.data = (files f).map FileG.data := by
  unfold crashTo
  rw [List.take_length]
  have : ∀ (l : List (List UInt8)) (a : (Nat → Option FileG) × Nat), (∀ s, s ∈ l → s ∈ sortedKeys D) → Whole D a.1 → ((l.foldl (keepS cs D) a).1 f).map FileG.data = (a.1 f).map FileG.data := by
    intro l
    induction l with
    | nil => intro a _ _; rfl
    | cons t r ih =>
      intro a hl ha
      rw [List.foldl_cons]
      have hstep : Whole D (keepS cs D a t).1 ∧ ((keepS cs D a t).1 f).map FileG.data = (a.1 f).map FileG.data := by
        unfold keepS
        cases hf : fileAt D (.string t) with
        | none => exact ⟨ha, rfl⟩
        | some g =>
          cases hg : a.1 g with
          | none => simp only [hg]; exact ⟨ha, trivial⟩
          | some z =>
            simp only [hg]
            have hz := ha t g z (hl t (by simp)) hf hg
            have h0 : pick cs a.2 (z.data.length - z.synced) = 0 := by have := pick_le cs a.2 (z.data.length - z.synced); omega
            have hcut : (z.cut (pick cs a.2 (z.data.length - z.synced))).data = z.data := by rw [h0]; simp [FileG.cut, hz]
            have hcs : (z.cut (pick cs a.2 (z.data.length - z.synced))).synced = z.data.length := by rw [h0]; simp [FileG.cut, hz]
            refine ⟨fun s q x hs hq hx => ?_, ?_⟩
            · rcases upd_cases hx with ⟨_, rfl⟩ | ⟨_, hx⟩
              · rw [hcs, hcut]
              · exact ha s q x hs hq hx
            · by_cases e : f = g
              · subst e; rw [upd_same, hg]; simp [hcut]
              · rw [upd_other _ e]
      rw [ih _ (fun s hs => hl s (by simp [hs])) hstep.1]
      exact hstep.2
  exact this _ (files, 1) (fun s hs => hs) hw

theorem lenOf_map (files : Nat → Option FileG) (f : Nat) : lenOf files f = match (files f).map FileG.data with | some d => d.length | none => 0 := by
  unfold lenOf; cases files f <;> rfl

/-- A crash behind a crash: the same names, the same bytes. -/
theorem crash_twice {w : World} {F : Nat → Prop} {N b : Nat} {m : Mem} (cs : List Int) {bm bs bm' bs' : Nat} (h : IsDisk w F N b (crashed cs m bm bs)) (hok : ∀ f x, m.files f = some x → x.synced ≤ x.data.length) (hgood : Good m.files (crashed cs m bm bs).names) :
    (crashed cs (crashed cs m bm bs) bm' bs').names = (crashed cs m bm bs).names ∧ (∀ f, ((crashed cs (crashed cs m bm bs) bm' bs').files f).map FileG.data = ((crashed cs m bm bs).files f).map FileG.data) := by
  have e : (crashed cs (crashed cs m bm bs) bm' bs').names = (crashed cs m bm bs).names := by
    show replay [] _ _ = _
    simp [replay]
    rfl
  refine ⟨e, fun f => ?_⟩
  have hw : Whole (crashed cs m bm bs).names (crashed cs m bm bs).files := crash_whole cs _ m.files hok (fun s f hs hf => hgood.at hf)
  have h1 : (crashed cs (crashed cs m bm bs) bm' bs').files = (crashTo cs (crashed cs m bm bs).names (crashed cs m bm bs).files (sortedKeys (crashed cs m bm bs).names).length).1 := by
    show (crashTo cs (replay [] _ _) _ (sortedKeys (replay [] _ _)).length).1 = _
    simp [replay]
    rfl
  rw [h1]
  exact crash_still cs _ _ hw f

end Go.Proofs.Ytopablemfajecaa
