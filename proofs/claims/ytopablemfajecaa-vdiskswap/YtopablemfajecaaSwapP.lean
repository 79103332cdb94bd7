/- VdiskSwap, in plain words: what five calls with a fuse leave. -/
import Derived.Test.YtopablemfajecaaAnyB
namespace Go.Proofs.Ytopablemfajecaa
open Go.RowKit Go.Maps Go.WideMaps Go.WideElems
set_option linter.unusedVariables false
set_option linter.unusedSimpArgs false

theorem right_t : rightB ⟨#[116]⟩ = true := by decide
theorem ta_ne : key ⟨#[116]⟩ ≠ key ⟨#[97]⟩ := key_ne (by decide)
theorem at_ne : key ⟨#[97]⟩ ≠ key ⟨#[116]⟩ := key_ne (by decide)

/-- The file that a is behind a crash: the elder one or the newer one, whole and synced. -/
def SwapEnd (cs : List Int) (elder newer : List UInt8) (q all : Int) (m : Mem) : Prop :=
  ∃ f x, fileAt (replay m.chs (pick cs 0 m.chs.length) m.synced) (key ⟨#[97]⟩) = some f ∧ m.files f = some x ∧ x.synced = x.data.length ∧
    ((all = 0 ∧ 5 ≤ q ∧ x.data = newer) ∨ (all ≠ 0 ∧ q < 5 ∧ (x.data = newer ∨ x.data = elder)))

theorem spent_pos {q : Int} (h : 0 < q) : spent q = q - 1 := if_pos h

theorem swap_pure (cs : List Int) (elder newer : List UInt8) (q n1 n2 n3 n4 n5 : Int) (fa : Nat) (xa : FileG) (m m1 m2 m3 m4 m5 : Mem) (h1 : elder.length ≤ 300) (h2 : newer.length ≤ 300) (hq : 0 ≤ q ∧ q ≤ 7)
    (hn : m.names = (DataW.map []).put (key ⟨#[97]⟩) (.lit (.int .i64 fa))) (hs : m.synced = (DataW.map []).put (key ⟨#[97]⟩) (.lit (.int .i64 fa))) (hc : m.chs = []) (hfa : m.files fa = some xa) (hxd : xa.data = elder) (hxs : xa.synced = xa.data.length) (hg : m.gone = false) (hfu : m.fuse = q) (hqu : m.quota = 1048576)
    (s1 : CreateSpec ⟨#[116]⟩ m n1 m1) (s2 : AppendSpec ⟨#[116]⟩ newer m1 n2 m2) (s3 : SyncSpec ⟨#[116]⟩ m2 n3 m3) (s4 : RenameSpec ⟨#[116]⟩ ⟨#[97]⟩ m3 n4 m4) (s5 : SyncDirSpec m4 n5 m5) :
    SwapEnd cs elder newer q (n1 + n2 + n3 + n4 + n5) m5 := by
  have hft : fileAt m.names (key ⟨#[116]⟩) = none := by rw [hn, fileAt_put_other ta_ne]; exact fileAt_empty _
  have hsz : Maps.size m.names < 512 := by rw [hn, size_one]; decide
  have hel : ∀ D : DataW Unit, D = (DataW.map []).put (key ⟨#[97]⟩) (.lit (.int .i64 fa)) → fileAt D (key ⟨#[97]⟩) = some fa := fun D e => by rw [e]; exact fileAt_put_same isMap_empty _ _
  by_cases q0 : q = 0
  · -- nothing is done
    have hp : NoPower m := .inr (by rw [hfu]; exact q0)
    obtain ⟨rfl, rfl⟩ := s1.no right_t hft hsz hp
    obtain ⟨rfl, rfl⟩ := s2.none right_t hft
    obtain ⟨rfl, rfl⟩ := s3.none right_t hft
    obtain ⟨rfl, rfl⟩ := s4.none right_t right_a hft
    obtain ⟨rfl, rfl⟩ := s5.no (.inl rfl)
    refine ⟨fa, xa, ?_, hfa, hxs, .inr ⟨by decide, by omega, .inr hxd⟩⟩
    show fileAt (replay m.chs _ m.synced) _ = _
    rw [hc, hs]; exact hel _ (by simp [replay])
  · have hp1 : m.fuse ≠ 0 := by rw [hfu]; exact q0
    obtain ⟨rfl, ft, v, v', hfresh, rfl⟩ := s1.ok right_t hft hsz hg hp1
    have hne : fa ≠ ft := fun e => by rw [← e, hfa] at hfresh; cases hfresh
    have hsp : spent m.fuse = q - 1 := by rw [hfu]; exact spent_pos (by omega)
    have hft1 : fileAt (m.names.put (key ⟨#[116]⟩) (.lit (.int .i64 ft))) (key ⟨#[116]⟩) = some ft := fileAt_put_same (by rw [hn]; exact isMap_empty.put _ _) _ _
    have hla : lenOf (upd m.files ft ⟨.slice none 0 0, [], 0⟩) fa = elder.length := by simp [lenOf, upd_other _ hne, hfa, hxd]
    have hlt : lenOf (upd m.files ft ⟨.slice none 0 0, [], 0⟩) ft = 0 := by simp [lenOf, upd_same]
    have hquo : (total (m.names.put (key ⟨#[116]⟩) (.lit (.int .i64 ft))) (lenOf (upd m.files ft ⟨.slice none 0 0, [], 0⟩)) : Int) + newer.length ≤ m.quota := by
      have t1 := total_put_le m.names (key ⟨#[116]⟩) (.lit (.int .i64 ft)) (lenOf (upd m.files ft ⟨.slice none 0 0, [], 0⟩))
      have t2 : total m.names (lenOf (upd m.files ft ⟨.slice none 0 0, [], 0⟩)) = elder.length := by rw [hn, total_one, hla]
      have t3 : lenAt (lenOf (upd m.files ft ⟨.slice none 0 0, [], 0⟩)) (.lit (.int .i64 ft)) = 0 := by simp [lenAt, hlt]
      rw [hqu]; omega
    -- the directory behind a crash that keeps the Create or not: a is the elder file
    have hrep : ∀ k, fileAt (replay (m.chs ++ [(v, ⟨0, ⟨#[116]⟩, ByteArray.empty, ft⟩)]) k m.synced) (key ⟨#[97]⟩) = some fa := by
      intro k
      rw [hc, hs]
      match k with
      | 0 => exact hel _ rfl
      | (j + 1) =>
        have e : replay ([] ++ [(v, (⟨0, ⟨#[116]⟩, ByteArray.empty, ft⟩ : Chg))]) (j + 1) ((DataW.map []).put (key ⟨#[97]⟩) (.lit (.int .i64 fa))) = ((DataW.map []).put (key ⟨#[97]⟩) (.lit (.int .i64 fa))).put (key ⟨#[116]⟩) (.lit (.int .i64 ft)) := by simp [replay, Chg.on]
        rw [e, fileAt_put_other at_ne]; exact hel _ rfl
    by_cases q1 : q = 1
    · have hp : ∀ x, NoPower { m with fuse := spent m.fuse, names := m.names.put (key ⟨#[116]⟩) (.lit (.int .i64 ft)), chv := v', chs := m.chs ++ [(v, ⟨0, ⟨#[116]⟩, ByteArray.empty, ft⟩)], files := x } := fun x => .inr (by show spent m.fuse = 0; omega)
      obtain ⟨rfl, rfl⟩ := s2.no right_t hft1 hquo (hp _)
      obtain ⟨rfl, rfl⟩ := s3.no right_t hft1 (.inl rfl)
      obtain ⟨rfl, rfl⟩ := s4.no right_t right_a hft1 (.inl rfl)
      obtain ⟨rfl, rfl⟩ := s5.no (.inl rfl)
      exact ⟨fa, xa, hrep _, by show upd _ _ _ _ = _; rw [upd_other _ hne]; exact hfa, hxs, .inr ⟨by decide, by omega, .inr hxd⟩⟩
    · obtain ⟨rfl, v2, rfl⟩ := s2.ok right_t hft1 (x := ⟨.slice none 0 0, [], 0⟩) (by show upd _ _ _ _ = _; exact upd_same _ _ _) hquo hg (by show spent m.fuse ≠ 0; omega)
      have hsp2 : spent (spent m.fuse) = q - 2 := by rw [hsp, spent_pos (by omega)]; omega
      have hfa2 : ∀ y, upd (upd m.files ft ⟨.slice none 0 0, [], 0⟩) ft y fa = some xa := fun y => by rw [upd_other _ hne, upd_other _ hne]; exact hfa
      by_cases q2 : q = 2
      · obtain ⟨rfl, rfl⟩ := s3.no right_t hft1 (.inr (by show spent (spent m.fuse) = 0; omega))
        obtain ⟨rfl, rfl⟩ := s4.no right_t right_a hft1 (.inl rfl)
        obtain ⟨rfl, rfl⟩ := s5.no (.inl rfl)
        exact ⟨fa, xa, hrep _, hfa2 _, hxs, .inr ⟨by decide, by omega, .inr hxd⟩⟩
      · obtain ⟨rfl, rfl⟩ := s3.ok right_t hft1 (x := ⟨v2, newer, 0⟩) (by show upd _ _ _ _ = _; rw [upd_same]; rfl) hg (by show spent (spent m.fuse) ≠ 0; omega)
        have hsp3 : spent (spent (spent m.fuse)) = q - 3 := by rw [hsp2, spent_pos (by omega)]; omega
        have hfa3 : ∀ y z, upd (upd (upd m.files ft ⟨.slice none 0 0, [], 0⟩) ft y) ft z fa = some xa := fun y z => by rw [upd_other _ hne]; exact hfa2 _
        by_cases q3 : q = 3
        · obtain ⟨rfl, rfl⟩ := s4.no right_t right_a hft1 (.inr (by show spent (spent (spent m.fuse)) = 0; omega))
          obtain ⟨rfl, rfl⟩ := s5.no (.inl rfl)
          exact ⟨fa, xa, hrep _, hfa3 _ _, hxs, .inr ⟨by decide, by omega, .inr hxd⟩⟩
        · obtain ⟨rfl, v4, v4', rfl⟩ := s4.ok right_t right_a hft1 hg (by show spent (spent (spent m.fuse)) ≠ 0; omega)
          have hsp4 : spent (spent (spent (spent m.fuse))) = q - 4 := by rw [hsp3, spent_pos (by omega)]; omega
          have hnm : fileAt (((m.names.put (key ⟨#[116]⟩) (.lit (.int .i64 ft))).del (key ⟨#[116]⟩)).put (key ⟨#[97]⟩) (.lit (.int .i64 ft))) (key ⟨#[97]⟩) = some ft :=
            fileAt_put_same (((by rw [hn]; exact isMap_empty.put _ _ : IsMap m.names).put _ _).del _) _ _
          by_cases q4 : q = 4
          · obtain ⟨rfl, rfl⟩ := s5.no (.inr (by show spent (spent (spent (spent m.fuse))) = 0; omega))
            have hk := pick_le cs 0 2
            have hlen : (m.chs ++ [(v, (⟨0, ⟨#[116]⟩, ByteArray.empty, ft⟩ : Chg))] ++ [(v4, (⟨1, ⟨#[116]⟩, ⟨#[97]⟩, ft⟩ : Chg))]).length = 2 := by rw [hc]; rfl
            by_cases hk2 : pick cs 0 2 = 2
            · refine ⟨ft, ⟨v2, newer, newer.length⟩, ?_, by show upd _ _ _ _ = _; rw [upd_same], rfl, .inr ⟨by decide, by omega, .inl rfl⟩⟩
              show fileAt (replay _ (pick cs 0 (_ : List (Value × Chg)).length) m.synced) _ = _
              rw [hlen, hk2, hc, hs]
              have e : replay ([] ++ [(v, (⟨0, ⟨#[116]⟩, ByteArray.empty, ft⟩ : Chg))] ++ [(v4, (⟨1, ⟨#[116]⟩, ⟨#[97]⟩, ft⟩ : Chg))]) 2 ((DataW.map []).put (key ⟨#[97]⟩) (.lit (.int .i64 fa))) = ((((DataW.map []).put (key ⟨#[97]⟩) (.lit (.int .i64 fa))).put (key ⟨#[116]⟩) (.lit (.int .i64 ft))).del (key ⟨#[116]⟩)).put (key ⟨#[97]⟩) (.lit (.int .i64 ft)) := by simp [replay, Chg.on]
              rw [e, ← hn]
              exact hnm
            · refine ⟨fa, xa, ?_, hfa3 _ _, hxs, .inr ⟨by decide, by omega, .inr hxd⟩⟩
              show fileAt (replay _ (pick cs 0 (_ : List (Value × Chg)).length) m.synced) _ = _
              rw [hlen]
              have e : ∀ k, k ≤ 1 → replay (m.chs ++ [(v, (⟨0, ⟨#[116]⟩, ByteArray.empty, ft⟩ : Chg))] ++ [(v4, (⟨1, ⟨#[116]⟩, ⟨#[97]⟩, ft⟩ : Chg))]) k m.synced = replay (m.chs ++ [(v, (⟨0, ⟨#[116]⟩, ByteArray.empty, ft⟩ : Chg))]) k m.synced := by
                intro k hk1
                unfold replay
                rw [List.take_append_of_le_length (by rw [hc]; simpa using hk1)]
              rw [e _ (by omega)]
              exact hrep _
          · obtain ⟨rfl, bs5, rfl⟩ := s5.ok hg (by show spent (spent (spent (spent m.fuse))) ≠ 0; omega)
            refine ⟨ft, ⟨v2, newer, newer.length⟩, ?_, by show upd _ _ _ _ = _; rw [upd_same], rfl, .inl ⟨by decide, by omega, rfl⟩⟩
            show fileAt (replay [] _ _) _ = _
            have e : ∀ (k : Nat) (D : DataW Unit), replay [] k D = D := fun k D => by simp [replay]
            rw [e]
            exact hnm

end Go.Proofs.Ytopablemfajecaa
