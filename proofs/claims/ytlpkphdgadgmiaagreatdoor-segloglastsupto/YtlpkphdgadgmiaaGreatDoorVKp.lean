import Derived.Test.YtlpkphdgadgmiaaGreatDoorVAnyB
import Derived.Test.YtlpkphdgadgmiaaGreatDoorSgR
namespace Go.Proofs.YtlpkphdgadgmiaaGreatDoor.V
open Go.RowKit Go.Maps Go.WideMaps Go.WideElems
set_option linter.unusedVariables false
set_option linter.unusedSimpArgs false
set_option maxRecDepth 100000

theorem Blk.keeps {w w' : World} {F : Nat → Prop} {k : Nat} {cs : Array Value} {u : TypeId} (h : Blk w k cs u) (hk : Keeps F w w') (hn : ¬ F k) : Blk w' k cs u := (hk.block k h.lt hn).trans h
theorem rows_keeps {w w' : World} {F : Nat → Prop} {B n sz : Nat} {e : TypeId} {v : Value} {xs : List Value} (h : w.ownsRow B e sz v n xs) (hk : Keeps F w w') (hF : ∀ k, v.ownBlock = some k → ¬ F k) : w'.ownsRow B e sz v n xs := by
 refine ⟨h.1, ?_⟩
 rcases h.2 with h | ⟨g, cap, cur, rfl, hB, hg, r⟩
 ·exact .inl h
 ·exact .inr ⟨g, cap, cur, rfl, hB, (hk.block g (Array.getElem?_eq_some_iff.1 hg).1 (hF g rfl)).trans hg, r⟩
theorem IsDir.keeps {w w' : World} {F : Nat → Prop} {bm n : Nat} {D : DataW Unit} (h : IsDir w bm n D) (hk : Keeps F w w') (hn : ¬ F bm) : IsDir w' bm n D := by
 obtain ⟨es, clock, hb, r⟩ := h
 exact ⟨es, clock, (hk.block bm (Array.getElem?_eq_some_iff.1 hb).1 hn).trans hb, r⟩
theorem ChgAt.keeps {w w' : World} {F G : Nat → Prop} {v : Value} {c : Chg} (h : ChgAt w G v c) (hk : Keeps F w w') (hF : ∀ k, G k → ¬ F k) : ChgAt w' G v c := by
 rcases h with ⟨h0, x, y, hv, hx, hy, fx, fy, r⟩ | ⟨h0, x, y, z, hv, hx, hy, hz, fx, fy, fz, r⟩ | ⟨h0, x, hv, hx, fx, r⟩
 ·exact .inl ⟨h0, x, y, hv, hx.keeps hk (hF _ fx), hy.keeps hk (hF _ fy), fx, fy, r⟩
 ·exact .inr (.inl ⟨h0, x, y, z, hv, hx.keeps hk (hF _ fx), hy.keeps hk (hF _ fy), hz.keeps hk (hF _ fz), fx, fy, fz, r⟩)
 ·exact .inr (.inr ⟨h0, x, hv, hx.keeps hk (hF _ fx), fx, r⟩)
theorem IsDisk.keeps {w w' : World} {F G : Nat → Prop} {N b : Nat} {m : Mem} (h : IsDisk w G N b m) (hk : Keeps F w w') (hF : ∀ k, G k → ¬ F k) : IsDisk w' G N b m := by
 have hr := h.rest
 refine ⟨Blk.keeps h.dsk hk (hF _ h.fB), h.fB, { hr with
  names := hr.names.keeps hk (hF _ hr.fN)
  synced := hr.synced.keeps hk (hF _ hr.fS)
  file := fun f x hx => by
   obtain ⟨h1, h2, h3, h4, h5⟩ := hr.file f x hx
   exact ⟨h1, h2.keeps hk (hF _ h1), rows_keeps h3 hk (fun k e => hF _ (h4 k e)), h4, h5⟩
  row := rows_keeps hr.row hk (fun k e => hF _ (hr.rowF k e))
  chg := fun c hc => (hr.chg c hc).keeps hk hF }⟩
theorem Keeps.one {Z : Nat → Prop} {w w' : World} {b : Nat} (h : w.grownBy w' (some b)) (hb : Z b) : Keeps Z w w' := Keeps.of_grown h (fun k e _ => by cases e; exact hb)
theorem Keeps.then {Z : Nat → Prop} {a b c : World} (h : Keeps Z a b) (k : Keeps Z b c) : Keeps Z a c := h.trans k (fun _ _ h => h)

theorem IsDisk.sharp {w : World} {Z : Nat → Prop} {N b : Nat} {m : Mem} (h : IsDisk w Z N b m) : IsDisk w (fun k => Z k ∧ ¬ ∃ o, w.heap[k]? = some o ∧ F.Book o) N b m := by
 have hr := h.rest
 have nb : ∀ {k : Nat} {cs : Array Value} {t : TypeId}, Blk w k cs t → ¬ ∃ o, w.heap[k]? = some o ∧ F.Book o := fun hb ⟨o, ho, hk⟩ => by
  unfold Blk at hb
  rw [hb] at ho
  cases ho
  cases hk.plain
 have nd : ∀ {k n : Nat} {D : DataW Unit}, IsDir w k n D → ¬ ∃ o, w.heap[k]? = some o ∧ F.Book o := fun hb ⟨o, ho, hk⟩ => by
  obtain ⟨es, clock, hb, _⟩ := hb
  rw [hb] at ho
  cases ho
  rcases hk with ⟨r, e⟩ | ⟨d, e⟩ <;> cases e
 have nr : ∀ {k B n sz : Nat} {e : TypeId} {v : Value} {xs : List Value}, w.ownsRow B e sz v n xs → v.ownBlock = some k → ¬ ∃ o, w.heap[k]? = some o ∧ F.Book o := fun hb hv ⟨o, ho, hk⟩ => by
  rcases hb.2 with ⟨rfl, _⟩ | ⟨g, cap, cur, rfl, _, hg, _⟩
  ·cases hv
  ·cases hv
   rw [hg] at ho
   cases ho
   cases hk.plain
 refine ⟨h.dsk, ⟨h.fB, nb h.dsk⟩, { hr with
  fN := ⟨hr.fN, nd hr.names⟩
  fS := ⟨hr.fS, nd hr.synced⟩
  file := fun f x hx => by
   obtain ⟨h1, h2, h3, h4, h5⟩ := hr.file f x hx
   exact ⟨⟨h1, nb h2⟩, h2, h3, fun k hk => ⟨h4 k hk, nr h3 hk⟩, h5⟩
  rowF := fun k hk => ⟨hr.rowF k hk, nr hr.row hk⟩
  chg := fun c hc => ?_ }⟩
 rcases hr.chg c hc with ⟨hk, x, y, hv, hx, hy, fx, fy, r⟩ | ⟨hk, x, y, z, hv, hx, hy, hz, fx, fy, fz, r⟩ | ⟨hk, x, hv, hx, fx, r⟩
 ·exact .inl ⟨hk, x, y, hv, hx, hy, ⟨fx, nb hx⟩, ⟨fy, nb hy⟩, r⟩
 ·exact .inr (.inl ⟨hk, x, y, z, hv, hx, hy, hz, ⟨fx, nb hx⟩, ⟨fy, nb hy⟩, ⟨fz, nb hz⟩, r⟩)
 ·exact .inr (.inr ⟨hk, x, hv, hx, ⟨fx, nb hx⟩, r⟩)
theorem IsDisk.book {w w' : World} {Z : Nat → Prop} {N b : Nat} {m : Mem} {row : Option Nat} (h : IsDisk w Z N b m) (hg : w.grownBy w' row) (hr : ∀ r, row = some r → ∃ o, w.heap[r]? = some o ∧ F.Book o) : IsDisk w' Z N b m := by
 cases row with
 | none => exact h.kept_none hg
 | some r => exact ((h.sharp.keeps (Keeps.one (Z := fun k => k = r) hg rfl) (fun k hk e => by subst e; exact hk.2 (hr _ rfl))).monoF (fun k hk => hk.1))

end Go.Proofs.YtlpkphdgadgmiaaGreatDoor.V
