import Derived.Test.YtlpkphdgadgmiaaGreatDoorVCrashB
namespace Go.Proofs.YtlpkphdgadgmiaaGreatDoor.V
set_option maxRecDepth 100000
open Go.RowKit Go.Maps Go.WideMaps Go.WideElems Go.Sort Go.Shelf
set_option linter.unusedVariables false
set_option linter.unusedSimpArgs false

theorem Ch.kept {w w' : World} {ub cb : Nat} {v : Value} {cs : List Int} {j : Nat} {row : Option Nat} (h : Ch w ub cb v cs j) (hg : w.grownBy w' row) (h3 : NoTag w row 3) (h33 : NoTag w row 85) (hne : ∀ g off cap, 0 < cs.length → v = .slice (some ⟨g, off, none⟩) cs.length cap → some g ≠ row) : Ch w' ub cb v cs j :=
  ⟨h.u.keptN hg h3, h.c.keptN hg h33, h.s.kept hg hne, h.ne⟩

theorem Rest.kept_dir {w w' : World} {F : Nat → Prop} {N bm n : Nat} {m : Mem} {D : DataW Unit} (h : Rest w F N m) (hd : IsDir w bm n D) (hg : w.grownBy w' (some bm)) (h1 : m.bn ≠ bm) (h2 : m.bs ≠ bm) : Rest w' F N m :=
  { h with
    names := h.names.kept hg (by simpa using h1)
    synced := h.synced.kept hg (by simpa using h2)
    file := fun f x hx => (h.file f x hx).keptN hg (noTag_dir hd 116) (noTag_dir hd 5)
    row := rowKept h.row hg (noTag_dir hd 114)
    chg := fun c hc => (h.chg c hc).keptN hg (noTag_dir hd 9) (noTag_dir hd 113) }

theorem Good.replay {files : Nat → Option FileG} {chs : List (Value × Chg)} {D : DataW Unit} (h : Good files D) (hc : ∀ c ∈ chs, c.2.kind < 2 → ∃ x, files c.2.file = some x) (k : Nat) : Good files (replay chs k D) := by
  unfold YtlpkphdgadgmiaaGreatDoor.V.replay
  have : ∀ (l : List (Value × Chg)) (D : DataW Unit), (∀ c ∈ l, c ∈ chs) → Good files D → Good files (l.foldl (fun D c => c.2.on D) D) := by
    intro l
    induction l with
    | nil => intro D _ h; exact h
    | cons c r ih => intro D hl h; exact ih _ (fun d hd => hl d (by simp [hd])) (h.on c.2 (hc c (hl c (by simp))))
  exact this _ D (fun c hc => List.mem_of_mem_take hc) h

structure L2 (w wq : World) (F : Nat → Prop) (N b : Nat) (m : Mem) (v : Value) (cs : List Int) (ub cb bm : Nat) (D : DataW Unit) (sg k : Nat) : Prop where
  rest : Rest wq F N { m with files := (crashTo cs D m.files k).1 }
  good : Good (crashTo cs D m.files k).1 D
  cnt : (crashTo cs D m.files k).2 = 1 + k
  ch : Ch wq ub cb v cs (1 + k)
  dir : IsDir wq bm N D
  dsk : Dsk wq b m.fuse m.gone m.quota m.bn m.bs m.chv
  nm : 0 < (sortedKeys D).length → ∃ cur, Blk wq sg cur 9 ∧ ∀ (j : Nat) (s : List UInt8), (sortedKeys D)[j]? = some s → cur[j]? = some (encStr s)
  keeps : Keeps F w wq

theorem L2.step {w wq w6 w7 : World} {F : Nat → Prop} {N b : Nat} {m : Mem} {v : Value} {cs : List Int} {ub cb bm : Nat} {D : DataW Unit} {sg k : Nat} (h : L2 w wq F N b m v cs ub cb bm D sg k) (hk : k < (sortedKeys D).length) (f : Nat) (x : FileG) (hf : fileAt D (.string (sortedKeys D)[k]) = some f) (hx : (crashTo cs D m.files k).1 f = some x)
    (hnew : w.heap.size ≤ ub) (hsep : ∀ g off cap, 0 < cs.length → v = .slice (some ⟨g, off, none⟩) cs.length cap → ¬ F g)
    (hg6 : wq.grownBy w6 (some ub)) (hch : Ch w6 ub cb v cs (1 + k + 1)) (hg7 : w6.grownBy w7 (some f)) (hb7 : Blk w7 f #[(x.cut (pick cs (1 + k) (x.data.length - x.synced))).dv, .int .i64 (x.cut (pick cs (1 + k) (x.data.length - x.synced))).synced] 116) :
    L2 w w7 F N b m v cs ub cb bm D sg (k + 1) := by
  have hfile := h.rest.file f x hx
  have hpk := pick_le cs (1 + k) (x.data.length - x.synced)
  have hle : x.synced + pick cs (1 + k) (x.data.length - x.synced) ≤ x.data.length := by have := hfile.2.2.2.2.1; omega
  have hu := h.ch.u
  have rest6 := h.rest.kept_disk hu hg6 (by decide) (by decide) (by decide) (by decide) (by decide)
  have hfile6 := rest6.file f x hx
  have e1 : crashTo cs D m.files (k + 1) = (upd (crashTo cs D m.files k).1 f (x.cut (pick cs (1 + k) (x.data.length - x.synced))), 1 + k + 1) := by
    rw [crashTo_succ cs D m.files k hk]
    unfold keepS
    simp only [hf, hx, h.cnt]
  have dir6 := h.dir.kept hg6 (ne_dir_blk h.dir hu)
  have dsk6 : Dsk w6 b _ _ _ _ _ _ := Blk.keptN h.dsk hg6 (noTag_blk hu (by decide))
  have hf7 := hfile6.2.1
  refine ⟨?_, ?_, ?_, ?_, ?_, ?_, ?_, ?_⟩
  · rw [e1]
    exact rest6.setFile hx hg7 hb7 (cut_row _ hfile6.2.2.1 hle) (fun k hk => cut_own hk) (by simp [FileG.cut]; omega) (by have := hfile.2.2.2.2.2; simp [FileG.cut]; omega)
  · rw [e1]; exact h.good.monoF (fun _ _ => upd_some)
  · rw [e1]; show 1 + k + 1 = 1 + (k + 1); omega
  · have := hch.kept hg7 (noTag_blk hf7 (by decide)) (noTag_blk hf7 (by decide)) (fun g off cap hp hv e => hsep g off cap hp hv ((show g = f by simpa using e) ▸ hfile.1))
    rw [show 1 + (k + 1) = 1 + k + 1 by omega]
    exact this
  · exact dir6.kept hg7 (ne_dir_blk dir6 hf7)
  · exact Blk.keptN dsk6 hg7 (noTag_blk hf7 (by decide))
  · intro hp
    obtain ⟨cur, hb, hc⟩ := h.nm hp
    exact ⟨cur, (hb.keptN hg6 (noTag_blk hu (by decide))).keptN hg7 (noTag_blk hf7 (by decide)), hc⟩
  · refine ⟨hg7.os.trans (hg6.os.trans h.keeps.os), hg7.tape.trans (hg6.tape.trans h.keeps.tape), hg7.output.trans (hg6.output.trans h.keeps.output), Nat.le_trans h.keeps.size (Nat.le_trans hg6.size hg7.size), fun i hi hn => ?_⟩
    have h1 := hg6.block i (Nat.lt_of_lt_of_le hi h.keeps.size) (by simp; omega)
    have h2 := hg7.block i (Nat.lt_of_lt_of_le hi (Nat.le_trans h.keeps.size hg6.size)) (fun e => by cases e; exact hn hfile.1)
    exact h2.trans (h1.trans (h.keeps.block i hi hn))

theorem crash_end {w wq w8 w9 : World} {F : Nat → Prop} {N b : Nat} {m : Mem} {v : Value} {cs : List Int} {ub cb bm : Nat} {D : DataW Unit} {sg k : Nat} (h : L2 w wq F N b m v cs ub cb bm D sg k) (hB : F b) (hbm : w.heap.size ≤ bm) (hlt : bm < w8.heap.size)
    (hg8 : wq.grownBy w8 (some b)) (hd8 : Dsk w8 b m.fuse m.gone m.quota bm m.bs m.chv) {bs' : Nat} (hbs : bs' = w8.heap.size) (hg9 : w8.grownBy w9 (some b)) (hs9 : IsDir w9 bs' N D) {w' : World} (hg' : w9.grownBy w' (some b)) (hd9 : Dsk w9 b m.fuse m.gone m.quota bm bs' (.slice none 0 0)) (hd' : Dsk w' b (-1) false m.quota bm bs' (.slice none 0 0)) :
    IsDisk w' (fun k => F k ∨ w.heap.size ≤ k) N b { m with fuse := -1, gone := false, bn := bm, bs := bs', names := D, synced := D, chv := .slice none 0 0, chs := [], files := (crashTo cs D m.files k).1 } ∧ Keeps F w w' := by
  have r8 := h.rest.kept_disk h.dsk hg8 (by decide) (by decide) (by decide) (by decide) (by decide)
  have d8 := h.dir.kept hg8 (ne_dir_blk h.dir h.dsk)
  have r9 := r8.kept_disk hd8 hg9 (by decide) (by decide) (by decide) (by decide) (by decide)
  have d9 := d8.kept hg9 (ne_dir_blk d8 hd8)
  have r' := r9.kept_disk hd9 hg' (by decide) (by decide) (by decide) (by decide) (by decide)
  have d' := d9.kept hg' (ne_dir_blk d9 hd9)
  have s' := hs9.kept hg' (ne_dir_blk hs9 hd9)
  have rm := r'.monoF (G := fun k => F k ∨ w.heap.size ≤ k) (fun k hk => .inl hk)
  refine ⟨⟨hd', .inl hB, ?_⟩, ?_⟩
  · exact { fN := .inr hbm, fS := .inr (by have h1 := h.keeps.size; have h2 := hg8.size; show w.heap.size ≤ bs'; omega), fuseLo := Int.le_refl _, fuseHi := (by show (-1 : Int) ≤ 9223372036854775807; decide), quotaLo := rm.quotaLo, quotaHi := rm.quotaHi, names := d', synced := s',
            ne := (by show bm ≠ bs'; omega), gN := h.good, gS := h.good, gC := fun c hc => (by simp at hc), file := rm.file, apart := rm.apart, row := World.ownsRow_nil _ _ _ _, rowF := fun k hk => (by simp [Value.ownBlock] at hk), chg := fun c hc => (by simp at hc),
            szS := (by have : Maps.size D ≤ N := World.ownsMap.size_le d'; simpa using this) }
  · have k1 := h.keeps.trans (Keeps.of_grown (F := F) hg8 (fun k e _ => by cases e; exact hB)) (fun _ _ h => h)
    have k2 := k1.trans (Keeps.of_grown (F := F) hg9 (fun k e _ => by cases e; exact hB)) (fun _ _ h => h)
    exact k2.trans (Keeps.of_grown (F := F) hg' (fun k e _ => by cases e; exact hB)) (fun _ _ h => h)

end Go.Proofs.YtlpkphdgadgmiaaGreatDoor.V
