/- What the laws share: bytes that came in, bounds, one file behind a crash. -/
import Derived.Test.YtlpkphdgadgmiaaGreatDoorVKnows
namespace Go.Proofs.YtlpkphdgadgmiaaGreatDoor.V
set_option maxRecDepth 100000
open Go.RowKit Go.Maps Go.WideMaps Go.WideElems Go.Sort Go.Shelf
set_option linter.unusedVariables false
set_option linter.unusedSimpArgs false

theorem SrcB.keeps {w w' : World} {v : Value} {l : List UInt8} (h : SrcB w v l) (hk : Keeps (fun k => w.heap.size ≤ k) w w') : SrcB w' v l := h.kept_none hk.grown

theorem SrcI.keeps {w w' : World} {v : Value} {l : List Int} (h : SrcI w v l) (hk : Keeps (fun k => w.heap.size ≤ k) w w') : SrcI w' v l := h.kept hk.grown (fun _ _ _ _ _ => by simp)

/-- All that a disk owns is there. -/
theorem IsDisk.bound {w : World} {F : Nat → Prop} {N b : Nat} {m : Mem} (h : IsDisk w F N b m) : IsDisk w (fun k => F k ∧ k < w.heap.size) N b m := by
  have hr := h.rest
  refine ⟨h.dsk, ⟨h.fB, Blk.lt h.dsk⟩, { hr with
    fN := ⟨hr.fN, World.ownsMap.lt hr.names⟩
    fS := ⟨hr.fS, World.ownsMap.lt hr.synced⟩
    file := fun f x hx => by
      obtain ⟨h1, h2, h3, h4, h5⟩ := hr.file f x hx
      exact ⟨⟨h1, h2.lt⟩, h2, h3, fun k hk => ⟨h4 k hk, (h3.lt k hk).2⟩, h5⟩
    rowF := fun k hk => ⟨hr.rowF k hk, (hr.row.lt k hk).2⟩
    chg := fun c hc => ?_ }⟩
  rcases hr.chg c hc with ⟨hk, x, y, hv, hx, hy, fx, fy, r⟩ | ⟨hk, x, y, z, hv, hx, hy, hz, fx, fy, fz, r⟩ | ⟨hk, x, hv, hx, fx, r⟩
  · exact .inl ⟨hk, x, y, hv, hx, hy, ⟨fx, hx.lt⟩, ⟨fy, hy.lt⟩, r⟩
  · exact .inr (.inl ⟨hk, x, y, z, hv, hx, hy, hz, ⟨fx, hx.lt⟩, ⟨fy, hy.lt⟩, ⟨fz, hz.lt⟩, r⟩)
  · exact .inr (.inr ⟨hk, x, hv, hx, ⟨fx, hx.lt⟩, r⟩)

theorem sortedKeys_one (s : ByteArray) (d : DataW Unit) : sortedKeys ((DataW.map []).put (key s) d) = [s.data.toList] := by
  simp [sortedKeys, strKeys, DataW.put, DataW.insert, strOf, key]

/-- A directory of one name: its file behind a crash. -/
theorem crashTo_one (cs : List Int) (s : ByteArray) (f : Nat) (files : Nat → Option FileG) (x : FileG) (hx : files f = some x) :
    (crashTo cs ((DataW.map []).put (key s) (.lit (.int .i64 f))) files (sortedKeys ((DataW.map []).put (key s) (.lit (.int .i64 f)))).length).1 f = some (x.cut (pick cs 1 (x.data.length - x.synced))) := by
  unfold crashTo
  rw [List.take_length, sortedKeys_one]
  have hf : fileAt ((DataW.map []).put (key s) (.lit (.int .i64 f))) (.string s.data.toList) = some f := fileAt_put_same isMap_empty s f
  simp only [List.foldl_cons, List.foldl_nil, keepS, hf, hx]
  exact upd_same _ _ _

theorem right_f : rightB ⟨#[102]⟩ = true := by decide

/-- Two numbers, laid as a slice. -/
theorem two_src (w : World) (k c : Int) (hk : -9223372036854775808 ≤ k ∧ k ≤ 9223372036854775807) (hc : -9223372036854775808 ≤ c ∧ c ≤ 9223372036854775807) : SrcI (w.alloc (.cells #[.int .i64 k, .int .i64 c] 3)) (.slice (some ⟨w.heap.size, 0, none⟩) 2 2) [k, c] := by
  refine ⟨fun z hz => ?_, by simp, .inr ⟨w.heap.size, 0, 2, rfl, fun j z hj => ?_⟩⟩
  · simp at hz; rcases hz with rfl | rfl
    · exact hk
    · exact hc
  · have hb : Blk (w.alloc (.cells #[.int .i64 k, .int .i64 c] 3)) w.heap.size #[.int .i64 k, .int .i64 c] 3 := heap_alloc_new w _
    rw [hb.cell (0 + j)]
    match j, hj with
    | 0, hj => simpa using hj
    | 1, hj => simpa using hj

theorem elem32 : Tryz.prog.elem 49 = 5 := by kernel_rfl
theorem slice_bytes (a : Option Addr) (L cap k : Nat) (h2 : k ≤ cap) (w : World) :
    (Instr.slice 49 (.slice a L cap) none (some (.int .i64 k)) none).run Tryz.prog w = .ok (.slice a k cap) w := by
  have hz : (sizeOf 5).run Tryz.prog w = .ok 1 w := Tryz.sizeOf5 w
  have ht : Tryz.prog.underlying 49 = some (.slice (Tryz.prog.elem 49)) := by rw [elem32]; exact Tryz.underlying49
  rw [run_slice_h w 49 a L cap ht .i64 k (by omega) (by omega), elem32, hz]
  have e2 : (if cap = 0 then a else a.map (fun x => x.add (0 * 1))) = a := by
    split
    · rfl
    · cases a <;> simp [Addr.add]
  simp [Result.andThen, sliced, e2]
theorem SrcB.take {w : World} {a : Option Addr} {cap : Nat} {l : List UInt8} (h : SrcB w (.slice a l.length cap) l) (n : Nat) (hn : n ≤ l.length) : SrcB w (.slice a n cap) (l.take n) := by
  have hl : (l.take n).length = n := by simp; omega
  rcases h with ⟨e, rfl⟩ | ⟨ad, c, e, hc⟩
  · cases e
    have : n = 0 := by simpa using hn
    subst this
    exact .inl ⟨rfl, rfl⟩
  · cases e
    refine .inr ⟨ad, cap, by rw [hl], fun j u hj => hc j u ?_⟩
    simp only [u8s, List.map_take] at hj ⊢
    rw [List.getElem?_take] at hj
    split at hj
    · exact hj
    · cases hj

theorem twice_mod (c q : Int) (hq : 1 ≤ q) (hq' : q ≤ 1000000) : (wrap64 (c.tmod q + q)).tmod q = c % q := by
  have he := emod_of c q hq
  have h0 := Int.emod_nonneg c (b := q) (by omega)
  have h1 := Int.emod_lt_of_pos c (b := q) (by omega)
  have hb : -q ≤ c.tmod q ∧ c.tmod q < q := by
    by_cases hc : c.tmod q < 0
    · rw [if_pos hc] at he; omega
    · rw [if_neg hc] at he; omega
  have hw : wrap64 (c.tmod q + q) = c.tmod q + q := by
    have := wrap_id (c.tmod q + q) (by omega) (by omega)
    rw [← this]
    simp [wrap64, IntKind.wrap_i64]
  rw [hw, Int.tmod_eq_emod_of_nonneg (by omega)]
  by_cases hc : c.tmod q < 0
  · rw [if_pos hc] at he
    rw [he]
    exact Int.emod_eq_of_lt (by omega) (by omega)
  · rw [if_neg hc] at he
    rw [Int.add_emod_right, he]
    exact Int.emod_eq_of_lt (by omega) (by omega)

theorem text_app (a b : List UInt8) : (a ++ b == ((⟨a.toArray⟩ : ByteArray) ++ (⟨b.toArray⟩ : ByteArray)).toList) = true := by
  have e : ((⟨a.toArray⟩ : ByteArray) ++ (⟨b.toArray⟩ : ByteArray)) = ⟨(a ++ b).toArray⟩ := by
    apply ByteArray.ext
    simp
  rw [e]
  simp [go_sem]

end Go.Proofs.YtlpkphdgadgmiaaGreatDoor.V
