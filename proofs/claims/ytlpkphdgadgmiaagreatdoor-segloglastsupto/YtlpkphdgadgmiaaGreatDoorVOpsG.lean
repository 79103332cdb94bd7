import Derived.Test.YtlpkphdgadgmiaaGreatDoorVOpsF
namespace Go.Proofs.YtlpkphdgadgmiaaGreatDoor.V
set_option maxRecDepth 100000
open Go.RowKit Go.Maps Go.WideMaps Go.WideElems
set_option linter.unusedVariables false
set_option linter.unusedSimpArgs false

theorem len_le_total {D : DataW Unit} {kl : Lit} {f : Nat} (ln : Nat → Nat) (h : fileAt D kl = some f) : ln f ≤ total D ln := by
 unfold fileAt DataW.atKey at h
 cases D with
 | map es =>
  simp only at h
  cases hp : es.find? (fun p => p.1.sameKey kl) with
  | none => simp [hp] at h
  | some p =>
   have hm := List.mem_of_find?_eq_some hp
   have hl : lenAt ln p.2 = ln f := by
    simp only [hp] at h
    unfold lenAt
    split at h
    ·split at h
     ·rename_i z hz hpos
      simp only [hz]
      cases h
      simp [hpos]
     ·cases h
    ·cases h
   rw [← hl]
   unfold total entriesOf
   have : ∀ es : List (Lit × DataW Unit), p ∈ es → lenAt ln p.2 ≤ (es.map (fun p => lenAt ln p.2)).sum := by
    intro es
    induction es with
    | nil => intro h; cases h
    | cons q r ih =>
     intro h
     simp only [List.map_cons, List.sum_cons]
     rcases List.mem_cons.1 h with e | h
     ·subst e; omega
     ·have := ih h; omega
   exact this es hm
 | _ => simp at h

theorem SrcB.kept_disk {w w' : World} {v : Value} {l : List UInt8} {b : Nat} {fuse : Int} {gone : Bool} {quota : Int} {bn bs : Nat} {a0 : Option Addr} {n0 c0 : Nat} (h : SrcB w v l) (hd : Dsk w b fuse gone quota bn bs (.slice a0 n0 c0)) (hg : w.grownBy w' (some b)) : SrcB w' v l := by
 rcases h with h | ⟨a, cap, hv, hc⟩
 ·exact .inl h
 ·refine .inr ⟨a, cap, hv, fun j u hj => ?_⟩
  have hcell := hc j u hj
  refine hg.cell hcell ?_
  intro e
  have hu : ∃ c : UInt8, u = .int .u8 c.toNat := by
   have := List.mem_of_getElem? hj
   obtain ⟨c, _, rfl⟩ := List.mem_map.1 this
   exact ⟨c, rfl⟩
  obtain ⟨c, rfl⟩ := hu
  have e' : (a.add j).block = b := by simpa using e
  unfold World.cell? at hcell
  unfold Dsk Blk at hd
  rw [e', hd] at hcell
  simp only at hcell
  split at hcell
  ·cases hcell
  ·have := Array.mem_of_getElem? hcell
   simp at this
theorem SrcB.kept_none {w w' : World} {v : Value} {l : List UInt8} (h : SrcB w v l) (hg : w.grownBy w' none) : SrcB w' v l := by
 rcases h with h | ⟨a, cap, hv, hc⟩
 ·exact .inl h
 ·exact .inr ⟨a, cap, hv, fun j u hj => hg.cell (hc j u hj) (by simp)⟩

set_option maxHeartbeats 1000000 in
theorem append_ok (N b : Nat) (F : Nat → Prop) (m : Mem) (s : ByteArray) (f : Nat) (x : FileG) (l : List UInt8) (a : Option Addr) (cap : Nat) (w : World) (h : IsDisk w F N b m) (hN : N < 1099511627776) (hs : s.size ≤ maxLen) (hr : rightB s = true) (hf : fileAt m.names (key s) = some f) (hx : m.files f = some x)
  (hsrc : SrcB w (.slice a l.length cap) l) (hq : (total m.names (lenOf m.files) : Int) + l.length ≤ m.quota) (hp1 : m.gone = false) (hp2 : m.fuse ≠ 0) :
  Calls Tryz.prog 25 #[.pointer (some ⟨b, 0, none⟩), .string s, .slice a l.length cap] w fun e w' => e = .returned (.int .i64 0) ∧
   (∃ v', IsDisk w' (fun k => F k ∨ w.heap.size ≤ k) N b { m with fuse := spent m.fuse, files := upd m.files f ⟨v', x.data ++ l, x.synced⟩ }) ∧ Keeps F w w' := by
 have hd := h.dsk
 obtain ⟨_, _, c2, c3, _, _⟩ := hd.cells
 have hdir := h.rest.names
 have hqh := h.rest.quotaHi
 have hlf : lenOf m.files f = x.data.length := by simp [lenOf, hx]
 have hle := len_le_total (lenOf m.files) hf
 rw [hlf] at hle
 obtain ⟨T, hTe, hT, hU⟩ := used_drew N b F m w h hN
 rw [← hTe] at hq hle
 have hll : l.length ≤ 1048576 := by omega
 have hxl : x.data.length + l.length ≤ 1048576 := by omega
 have hx47 : x.data.length + l.length ≤ 140737488355328 := by omega
 have hwr := wrap_id ((T : Int) + (l.length : Int)) (by omega) (by omega)
 obtain ⟨i0, hi, hz0, hz1, hz2⟩ := info_parts info5
 have HU := hid_mk hU
 have H := hid_mk h
 have HP1 := hid_mk hp1
 have HP2 := hid_mk hp2
 have HX := hid_mk hx
 have HS := hid_mk hsrc
 have H47 := hid_mk hx47
 have HXL := hid_mk hxl
 have HI := hid_mk (And.intro hi (And.intro hz0 (And.intro hz1 hz2)))
 clear hN h hTe hU hp1 hp2 hx hsrc hx47 hxl hlf hle hi hz0 hz1 hz2 hqh
 go_enter Tryz.func25, Tryz.ntmps25
 go_wp2_with (first | (go_at_call 68; refine (find_some b m.bn N m.names s f _ c3 hs hr hdir hf).mono ?_; rintro e w' ⟨rfl, rfl⟩))
 go_region_with (go_at_call 60; refine HU.out.mono ?_; rintro e w1 ⟨rfl, hg1, c2'⟩)
 all_goals
  have hI1 := hid_mk (H.out.kept_none hg1)
  have hd1 : Dsk w1 b m.fuse false m.quota m.bn m.bs m.chv := by have := hI1.out.dsk; rw [HP1.out] at this; exact this
  obtain ⟨a0, c0, hchv⟩ := row_len hI1.out.rest.row
  have HV := hid_mk hchv
  clear hchv
  go_wp2_with (first
   | (go_at_call 69; refine (spend_yes b _ _ _ _ _ _ hd1 HP2.out hI1.out.rest.fuseLo hI1.out.rest.fuseHi).mono ?_; rintro e w2 ⟨rfl, hd2, hg2⟩; have hr2 := hid_mk (hI1.out.rest.kept_disk hd1 hg2 (by decide) (by decide) (by decide) (by decide) (by decide)); have hf2 := hid_mk (hr2.out.file f x HX.out); have d0 := hf2.out.2.1.cell 0; have hsrc2 := hid_mk (SrcB.kept_disk (HS.out.kept_none hg1) (by have := hd1; rw [HV.out] at this; exact this) hg2); simp at d0)
   | (at_builtin; refine wpList_append_src _ rfl _ _ 49 rfl i0 Tryz.underlying49 HI.out.1 HI.out.2.1 HI.out.2.2.1 HI.out.2.2.2 x.dv x.data.length (u8s x.data) rfl hf2.out.2.2.1 l _ rfl hsrc2.out H47.out ?_; intro a' cap' w3 hown3 hgrow3 hloc3; have hb3 := hid_mk (hf2.out.2.1.keptN hgrow3 (noTag_row hf2.out.2.2.1 (by decide))); have e0 := hb3.out.cell 0; have ef0 := hb3.out.frozen 0; simp at e0; have HL := hid_mk hloc3; clear hloc3))
  go_ret
  have gs := grown_setCell w3 f 0 (.slice a' (x.data.length + l.length) cap')
  have hbs : Blk (w3.setCell ⟨f, 0, none⟩ (.slice a' (x.data.length + l.length) cap')) f #[.slice a' (x.data.length + l.length) cap', .int .i64 x.synced] 116 := by
   have := hb3.out.set 0 (.slice a' (x.data.length + l.length) cap')
   simpa using this
  have hd3 : Dsk w3 b _ _ _ _ _ _ := Blk.keptN hd2 hgrow3 (noTag_row hf2.out.2.2.1 (by decide))
  have hne : some b ≠ some f := noTag_blk hb3.out (u := 70) (by decide) _ _ hd3
  have hI := H.out
  refine ⟨rfl, ⟨.slice a' (x.data.length + l.length) cap', ⟨?_, .inl hI.fB, ?_⟩⟩, ?_⟩
  ·have := Blk.kept hd3 gs hne
   rw [← HP1.out] at this
   exact this
  ·refine (hr2.out.appended (G := fun k => F k ∨ _) (y := ⟨.slice a' (x.data.length + l.length) cap', x.data ++ l, x.synced⟩) (fun k hk => .inl hk) (.inr (Nat.le_trans hg1.size hg2.size)) HX.out hgrow3 ?_ HL.out gs hbs ?_ ?_).power _ _ (spent_lo hI.rest.fuseLo) (spent_hi hI.rest.fuseHi)
   ·simpa [u8s_append] using hown3
   ·have := hf2.out.2.2.2.2.1; simp; omega
   ·have := HXL.out; simp; omega
  ·exact (((Keeps.of_grown (F := F) hg1 (fun k e _ => by cases e)).trans (Keeps.of_grown (F := F) hg2 (fun k e _ => by cases e; exact hI.fB)) (fun _ _ h => h)).trans (Keeps.of_grown (F := F) hgrow3 (fun k e _ => hf2.out.2.2.2.1 k e)) (fun _ _ h => h)).trans (Keeps.of_grown (F := F) gs (fun k e _ => by cases e; exact hf2.out.1)) (fun _ _ h => h)

end Go.Proofs.YtlpkphdgadgmiaaGreatDoor.V
