import Derived.Test.YtlpkphdgadgmiaaGreatDoorVChange
namespace Go.Proofs.YtlpkphdgadgmiaaGreatDoor.V
set_option maxRecDepth 100000
open Go.RowKit Go.Maps Go.WideMaps Go.WideElems
set_option linter.unusedVariables false
set_option linter.unusedSimpArgs false

structure FileG where
 dv : Value
 data : List UInt8
 synced : Nat

structure Mem where
 fuse : Int
 gone : Bool
 quota : Int
 bn : Nat
 bs : Nat
 names : DataW Unit
 synced : DataW Unit
 chv : Value
 chs : List (Value × Chg)
 files : Nat → Option FileG

def u8s (l : List UInt8) : List Value := l.map fun c => .int .u8 c.toNat

def FileAt (w : World) (F : Nat → Prop) (f : Nat) (x : FileG) : Prop :=
 F f ∧ Blk w f #[x.dv, .int .i64 x.synced] 116 ∧ w.ownsRow 0 5 1 x.dv x.data.length (u8s x.data) ∧ (∀ k, x.dv.ownBlock = some k → F k) ∧ x.synced ≤ x.data.length ∧ x.data.length ≤ 1048576

def Good (files : Nat → Option FileG) (D : DataW Unit) : Prop := ∀ p ∈ entriesOf D, ∃ f : Nat, p.2 = .lit (.int .i64 f) ∧ ∃ x, files f = some x

def Apart (files : Nat → Option FileG) : Prop := ∀ f g x y k, files f = some x → files g = some y → x.dv.ownBlock = some k → y.dv.ownBlock = some k → f = g

structure Rest (w : World) (F : Nat → Prop) (N : Nat) (m : Mem) : Prop where
 fN : F m.bn
 fS : F m.bs
 fuseLo : -1 ≤ m.fuse
 fuseHi : m.fuse ≤ 9223372036854775807
 quotaLo : 1 ≤ m.quota
 quotaHi : m.quota ≤ 1048576
 names : IsDir w m.bn N m.names
 synced : IsDir w m.bs N m.synced
 ne : m.bn ≠ m.bs
 gN : Good m.files m.names
 gS : Good m.files m.synced
 gC : ∀ c ∈ m.chs, c.2.kind < 2 → ∃ x, m.files c.2.file = some x
 file : ∀ f x, m.files f = some x → FileAt w F f x
 apart : Apart m.files
 row : w.ownsRow 0 114 1 m.chv m.chs.length (m.chs.map Prod.fst)
 rowF : ∀ k, m.chv.ownBlock = some k → F k
 chg : ∀ c ∈ m.chs, ChgAt w F c.1 c.2
 szS : Maps.size m.synced + m.chs.length ≤ N

structure IsDisk (w : World) (F : Nat → Prop) (N b : Nat) (m : Mem) : Prop where
 dsk : Dsk w b m.fuse m.gone m.quota m.bn m.bs m.chv
 fB : F b
 rest : Rest w F N m

def NoTag (w : World) (row : Option Nat) (u : TypeId) : Prop := ∀ k cs, Blk w k cs u → some k ≠ row

theorem noTag_none (w : World) (u : TypeId) : NoTag w none u := fun _ _ _ => by simp
theorem noTag_blk {w : World} {k0 : Nat} {cs : Array Value} {t u : TypeId} (h : Blk w k0 cs t) (hne : u ≠ t) : NoTag w (some k0) u := by
 intro k ds hk e
 cases e
 unfold Blk at *
 rw [h] at hk
 simp at hk
 exact hne hk.2.symm
theorem noTag_dir {w : World} {bm n : Nat} {D : DataW Unit} (h : IsDir w bm n D) (u : TypeId) : NoTag w (some bm) u := by
 intro k ds hk e
 cases e
 obtain ⟨es, clock, hb, _⟩ := h
 unfold Blk at hk
 rw [hb] at hk
 simp at hk
theorem noTag_row {w : World} {v : Value} {n : Nat} {xs : List Value} {e u : TypeId} (h : w.ownsRow 0 e 1 v n xs) (hne : u ≠ e) : NoTag w v.ownBlock u := by
 rcases h.2 with ⟨rfl, _⟩ | ⟨g, cap, cur, rfl, _, hg, _⟩
 ·exact noTag_none w u
 ·exact noTag_blk (cs := cur) hg hne
theorem ne_dir_blk {w : World} {bm n k0 : Nat} {D : DataW Unit} {cs : Array Value} {t : TypeId} (h : IsDir w bm n D) (hk : Blk w k0 cs t) : some bm ≠ some k0 := fun e => noTag_dir h t k0 cs hk e.symm
theorem ne_dir_row {w : World} {bm nn : Nat} {D : DataW Unit} {v : Value} {n : Nat} {xs : List Value} {e : TypeId} (h : IsDir w bm nn D) (hr : w.ownsRow 0 e 1 v n xs) : some bm ≠ v.ownBlock := by
 rcases hr.2 with ⟨rfl, _⟩ | ⟨g, cap, cur, rfl, _, hg, _⟩
 ·simp [Value.ownBlock]
 ·exact ne_dir_blk (cs := cur) h hg

theorem Blk.keptN {w w' : World} {k : Nat} {cs : Array Value} {u : TypeId} {row : Option Nat} (h : Blk w k cs u) (hg : w.grownBy w' row) (hn : NoTag w row u) : Blk w' k cs u := h.kept hg (hn k cs h)
theorem rowKept {w w' : World} {v : Value} {n : Nat} {xs : List Value} {e : TypeId} {row : Option Nat} (h : w.ownsRow 0 e 1 v n xs) (hg : w.grownBy w' row) (hn : NoTag w row e) : w'.ownsRow 0 e 1 v n xs := by
 refine h.kept hg ?_
 rcases h.2 with ⟨rfl, _⟩ | ⟨g, cap, cur, rfl, _, hb, _⟩
 ·exact .inl rfl
 ·exact .inr (hn g cur hb)
theorem ChgAt.keptN {w w' : World} {F : Nat → Prop} {v : Value} {c : Chg} {row : Option Nat} (h : ChgAt w F v c) (hg : w.grownBy w' row) (h9 : NoTag w row 9) (h75 : NoTag w row 113) : ChgAt w' F v c := by
 rcases h with ⟨hk, x, y, hv, hx, hy, rest⟩ | ⟨hk, x, y, z, hv, hx, hy, hz, rest⟩ | ⟨hk, x, hv, hx, rest⟩
 ·exact .inl ⟨hk, x, y, hv, hx.keptN hg h75, hy.keptN hg h9, rest⟩
 ·exact .inr (.inl ⟨hk, x, y, z, hv, hx.keptN hg h9, hy.keptN hg h75, hz.keptN hg h9, rest⟩)
 ·exact .inr (.inr ⟨hk, x, hv, hx.keptN hg h9, rest⟩)
theorem FileAt.keptN {w w' : World} {F : Nat → Prop} {f : Nat} {x : FileG} {row : Option Nat} (h : FileAt w F f x) (hg : w.grownBy w' row) (h79 : NoTag w row 116) (h5 : NoTag w row 5) : FileAt w' F f x :=
 ⟨h.1, h.2.1.keptN hg h79, rowKept h.2.2.1 hg h5, h.2.2.2⟩

theorem ChgAt.monoF {w : World} {F G : Nat → Prop} {v : Value} {c : Chg} (h : ChgAt w F v c) (hF : ∀ k, F k → G k) : ChgAt w G v c := by
 rcases h with ⟨hk, x, y, hv, hx, hy, fx, fy, r⟩ | ⟨hk, x, y, z, hv, hx, hy, hz, fx, fy, fz, r⟩ | ⟨hk, x, hv, hx, fx, r⟩
 ·exact .inl ⟨hk, x, y, hv, hx, hy, hF _ fx, hF _ fy, r⟩
 ·exact .inr (.inl ⟨hk, x, y, z, hv, hx, hy, hz, hF _ fx, hF _ fy, hF _ fz, r⟩)
 ·exact .inr (.inr ⟨hk, x, hv, hx, hF _ fx, r⟩)
theorem FileAt.monoF {w : World} {F G : Nat → Prop} {f : Nat} {x : FileG} (h : FileAt w F f x) (hF : ∀ k, F k → G k) : FileAt w G f x :=
 ⟨hF _ h.1, h.2.1, h.2.2.1, fun k hk => hF _ (h.2.2.2.1 k hk), h.2.2.2.2⟩
theorem Rest.monoF {w : World} {F G : Nat → Prop} {N : Nat} {m : Mem} (h : Rest w F N m) (hF : ∀ k, F k → G k) : Rest w G N m :=
 { h with fN := hF _ h.fN, fS := hF _ h.fS, file := fun f x hx => (h.file f x hx).monoF hF, rowF := fun k hk => hF _ (h.rowF k hk), chg := fun c hc => (h.chg c hc).monoF hF }
theorem IsDisk.monoF {w : World} {F G : Nat → Prop} {N b : Nat} {m : Mem} (h : IsDisk w F N b m) (hF : ∀ k, F k → G k) : IsDisk w G N b m := ⟨h.dsk, hF _ h.fB, h.rest.monoF hF⟩
theorem IsDir.mono {w : World} {bm n n' : Nat} {D : DataW Unit} (h : IsDir w bm n D) (hn : n ≤ n') : IsDir w bm n' D := World.ownsMap.mono h hn
theorem Rest.monoN {w : World} {F : Nat → Prop} {N N' : Nat} {m : Mem} (h : Rest w F N m) (hN : N ≤ N') : Rest w F N' m :=
 { h with names := h.names.mono hN, synced := h.synced.mono hN, szS := Nat.le_trans h.szS hN }
theorem IsDisk.monoN {w : World} {F : Nat → Prop} {N N' b : Nat} {m : Mem} (h : IsDisk w F N b m) (hN : N ≤ N') : IsDisk w F N' b m := ⟨h.dsk, h.fB, h.rest.monoN hN⟩

structure Keeps (F : Nat → Prop) (w w' : World) : Prop where
 os : w'.os = w.os
 tape : w'.tape = w.tape
 output : w'.output = w.output
 size : w.heap.size ≤ w'.heap.size
 block : ∀ k, k < w.heap.size → ¬ F k → w'.heap[k]? = w.heap[k]?

theorem Keeps.refl (F : Nat → Prop) (w : World) : Keeps F w w := ⟨rfl, rfl, rfl, Nat.le_refl _, fun _ _ _ => rfl⟩
theorem Keeps.trans {F G : Nat → Prop} {a b c : World} (h : Keeps F a b) (k : Keeps G b c) (hG : ∀ i, i < a.heap.size → ¬ F i → ¬ G i) : Keeps F a c :=
 ⟨k.os.trans h.os, k.tape.trans h.tape, k.output.trans h.output, Nat.le_trans h.size k.size, fun i hi hn => (k.block i (Nat.lt_of_lt_of_le hi h.size) (hG i hi hn)).trans (h.block i hi hn)⟩
theorem Keeps.of_grown {F : Nat → Prop} {w w' : World} {row : Option Nat} (h : w.grownBy w' row) (hr : ∀ k, row = some k → k < w.heap.size → F k) : Keeps F w w' :=
 ⟨h.os, h.tape, h.output, h.size, fun k hk hn => h.block k hk (fun e => hn (hr k e.symm hk))⟩
theorem Keeps.mono {F G : Nat → Prop} {w w' : World} (h : Keeps F w w') (hF : ∀ k, F k → G k) : Keeps G w w' := ⟨h.os, h.tape, h.output, h.size, fun k hk hn => h.block k hk (fun e => hn (hF k e))⟩

theorem Rest.kept_disk {w w' : World} {F : Nat → Prop} {N b : Nat} {m : Mem} {cs : Array Value} {t : TypeId} (h : Rest w F N m) (hb : Blk w b cs t) (hg : w.grownBy w' (some b)) (h79 : 116 ≠ t) (h5 : 5 ≠ t) (h83 : 114 ≠ t) (h9 : 9 ≠ t) (h75 : 113 ≠ t) : Rest w' F N m :=
 { h with
  names := h.names.kept hg (ne_dir_blk h.names hb)
  synced := h.synced.kept hg (ne_dir_blk h.synced hb)
  file := fun f x hx => (h.file f x hx).keptN hg (noTag_blk hb h79) (noTag_blk hb h5)
  row := rowKept h.row hg (noTag_blk hb h83)
  chg := fun c hc => (h.chg c hc).keptN hg (noTag_blk hb h9) (noTag_blk hb h75) }
theorem Rest.power {w : World} {F : Nat → Prop} {N : Nat} {m : Mem} (h : Rest w F N m) (f : Int) (g : Bool) (h1 : -1 ≤ f) (h2 : f ≤ 9223372036854775807) : Rest w F N { m with fuse := f, gone := g } :=
 { h with fuseLo := h1, fuseHi := h2 }
theorem Rest.kept_none {w w' : World} {F : Nat → Prop} {N : Nat} {m : Mem} (h : Rest w F N m) (hg : w.grownBy w' none) : Rest w' F N m :=
 { h with
  names := h.names.kept hg (by simp)
  synced := h.synced.kept hg (by simp)
  file := fun f x hx => (h.file f x hx).keptN hg (noTag_none _ _) (noTag_none _ _)
  row := rowKept h.row hg (noTag_none _ _)
  chg := fun c hc => (h.chg c hc).keptN hg (noTag_none _ _) (noTag_none _ _) }
theorem IsDisk.kept_none {w w' : World} {F : Nat → Prop} {N b : Nat} {m : Mem} (h : IsDisk w F N b m) (hg : w.grownBy w' none) : IsDisk w' F N b m :=
 ⟨Blk.kept h.dsk hg (by simp), h.fB, h.rest.kept_none hg⟩

theorem mem_ins (x : Lit × DataW Unit) : ∀ (l : List (Lit × DataW Unit)) (p : Lit × DataW Unit), p ∈ DataW.insert x l → p = x ∨ p ∈ l
 | [], p, h => by simp [DataW.insert] at h; exact .inl h
 | y :: r, p, h => by
  unfold DataW.insert at h
  split at h
  ·simp at h; rcases h with h | h | h
   ·exact .inl h
   ·exact .inr (by simp [h])
   ·exact .inr (by simp [h])
  ·simp at h; rcases h with h | h
   ·exact .inr (by simp [h])
   ·rcases mem_ins x r p h with h | h
    ·exact .inl h
    ·exact .inr (by simp [h])
theorem mem_put {D : DataW Unit} {k : Lit} {d : DataW Unit} {p : Lit × DataW Unit} (h : p ∈ entriesOf (D.put k d)) : p = (k, d) ∨ p ∈ entriesOf D := by
 unfold DataW.put at h
 cases D with
 | map es =>
  rcases mem_ins _ _ _ h with h | h
  ·exact .inl h
  ·exact .inr ((List.mem_filter.1 h).1)
 | _ => first | exact .inr h | simp [entriesOf] at h
theorem mem_del {D : DataW Unit} {k : Lit} {p : Lit × DataW Unit} (h : p ∈ entriesOf (D.del k)) : p ∈ entriesOf D := by
 unfold DataW.del at h
 cases D with
 | map es => exact (List.mem_filter.1 h).1
 | _ => first | exact h | simp [entriesOf] at h
theorem Good.put {files : Nat → Option FileG} {D : DataW Unit} (h : Good files D) (k : Lit) (f : Nat) (x : FileG) (hx : files f = some x) : Good files (D.put k (.lit (.int .i64 f))) := fun p hp => by
 rcases mem_put hp with rfl | hp
 ·exact ⟨f, rfl, x, hx⟩
 ·exact h p hp
theorem Good.del {files : Nat → Option FileG} {D : DataW Unit} (h : Good files D) (k : Lit) : Good files (D.del k) := fun p hp => h p (mem_del hp)
theorem Good.on {files : Nat → Option FileG} {D : DataW Unit} (h : Good files D) (c : Chg) (hc : c.kind < 2 → ∃ x, files c.file = some x) : Good files (c.on D) := by
 unfold Chg.on
 split
 ·obtain ⟨x, hx⟩ := hc (by omega); exact h.put _ _ x hx
 ·split
  ·obtain ⟨x, hx⟩ := hc (by omega); exact (h.del _).put _ _ x hx
  ·exact h.del _
theorem Good.noNil {files : Nat → Option FileG} {D : DataW Unit} (h : Good files D) : NoNil D := fun p hp => let ⟨f, hf, _⟩ := h p hp; ⟨f, hf⟩
theorem Good.monoF {files files' : Nat → Option FileG} {D : DataW Unit} (h : Good files D) (hf : ∀ f x, files f = some x → ∃ y, files' f = some y) : Good files' D := fun p hp => by
 obtain ⟨f, e, x, hx⟩ := h p hp
 exact ⟨f, e, hf f x hx⟩
theorem Good.at {files : Nat → Option FileG} {D : DataW Unit} (h : Good files D) {kl : Lit} {f : Nat} (hf : fileAt D kl = some f) : ∃ x, files f = some x := by
 unfold fileAt DataW.atKey at hf
 cases D with
 | map es =>
  simp only at hf
  cases hp : es.find? (fun p => p.1.sameKey kl) with
  | none => simp [hp] at hf
  | some p =>
   obtain ⟨g, hg, x, hx⟩ := h p (List.mem_of_find?_eq_some hp)
   simp [hp, hg] at hf
   exact ⟨x, hf ▸ hx⟩
 | _ => simp at hf

theorem row_succ {W : World} {base : Nat} {e : TypeId} {size : Nat} {v : Value} {k : Nat} {xs : List Value} (h : W.ownsRow base e size v (k + 1) xs) : ∃ g cap, v = .slice (some ⟨g, 0, none⟩) (k + 1) cap := by
 rcases h.2 with ⟨_, h0⟩ | ⟨g, cap, _, rfl, _⟩
 ·omega
 ·exact ⟨g, cap, rfl⟩

theorem Rest.changed {w1 w2 w3 : World} {F G : Nat → Prop} {N : Nat} {m : Mem} {v v' : Value} {c : Chg} {o : Obj} (h : Rest w1 F N m) (hFG : ∀ k, F k → G k) (hnew : G (w2.alloc o).heap.size)
  (hg2 : w1.grownBy w2 (some m.bn)) (hn : IsDir w2 m.bn (N + 1) (c.on m.names)) (hg3 : (w2.alloc o).grownBy w3 m.chv.ownBlock) (hrow : w3.ownsRow 0 114 1 v' (m.chs.length + 1) (m.chs.map Prod.fst ++ [v]))
  (hloc : v'.ownBlock = m.chv.ownBlock ∨ v'.ownBlock = some (w2.alloc o).heap.size) (hc : ChgAt w1 F v c) (hfc : c.kind < 2 → ∃ x, m.files c.file = some x) :
  Rest w3 G (N + 1) { m with names := c.on m.names, chv := v', chs := m.chs ++ [(v, c)] } := by
 have ga : w2.grownBy (w2.alloc o) none := World.grownBy_alloc w2 o none
 have row2 : w2.ownsRow 0 114 1 m.chv m.chs.length (m.chs.map Prod.fst) := rowKept h.row hg2 (noTag_dir h.names 114)
 have rowA := rowKept row2 ga (noTag_none _ _)
 have hchg : ∀ d u, ChgAt w1 F u d → ChgAt w3 G u d := fun d u hd => (((hd.keptN hg2 (noTag_dir h.names 9) (noTag_dir h.names 113)).keptN ga (noTag_none _ _) (noTag_none _ _)).keptN hg3 (noTag_row rowA (by decide)) (noTag_row rowA (by decide))).monoF hFG
 exact { h with
  fN := hFG _ h.fN
  fS := hFG _ h.fS
  names := (hn.kept ga (by simp)).kept hg3 (ne_dir_row (hn.kept ga (by simp)) rowA)
  synced := by
   have s2 := h.synced.kept hg2 (by simpa using h.ne.symm)
   have sA := s2.kept ga (by simp)
   exact (sA.kept hg3 (ne_dir_row sA rowA)).mono (by omega)
  gN := h.gN.on c hfc
  gC := fun d hd hk => by
   rcases List.mem_append.1 hd with hd | hd
   ·exact h.gC d hd hk
   ·cases List.mem_singleton.1 hd; exact hfc hk
  file := fun f x hx => ((((h.file f x hx).keptN hg2 (noTag_dir h.names 116) (noTag_dir h.names 5)).keptN ga (noTag_none _ _) (noTag_none _ _)).keptN hg3 (noTag_row rowA (by decide)) (noTag_row rowA (by decide))).monoF hFG
  row := by simpa using hrow
  rowF := fun k hk => by
   rcases hloc with e | e
   ·rw [e] at hk; exact hFG _ (h.rowF k hk)
   ·rw [e] at hk; cases hk; exact hnew
  chg := fun d hd => by
   rcases List.mem_append.1 hd with hd | hd
   ·exact hchg d.2 d.1 (h.chg d hd)
   ·cases List.mem_singleton.1 hd; exact hchg c v hc
  szS := by have := h.szS; simp; omega }

end Go.Proofs.YtlpkphdgadgmiaaGreatDoor.V
