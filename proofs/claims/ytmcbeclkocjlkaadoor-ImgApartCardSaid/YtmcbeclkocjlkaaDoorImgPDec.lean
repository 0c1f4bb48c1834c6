/- The program's Decode. -/
import Derived.Test.YtmcbeclkocjlkaaDoorGIpB
import Derived.Test.YtmcbeclkocjlkaaDoorImgPChk
import Derived.Test.YtmcbeclkocjlkaaDoorImgC
namespace Go.Proofs.YtmcbeclkocjlkaaDoor
set_option linter.unusedVariables false
set_option linter.unusedSimpArgs false
open Go Go.RowKit
theorem noImg_at (w : World) : ImgAt w noImg (.slice none 0 0) (.slice none 0 0) (.slice none 0 0) (.slice none 0 0) [] := by
  have h : ∀ n : Nat, n = 0 → SlAt w (.slice none 0 0) n [] := fun n hn => by
    subst hn
    exact ⟨none, 0, rfl, Nat.le_refl _, Nat.zero_le _, .inl rfl⟩
  exact ⟨h _ rfl, rfl, fun k p v hp => by simp [noImg] at hp, h _ rfl, h _ rfl, h _ rfl⟩
/-- What Decode answers. -/
def IDecR (l : List Nat) (w : World) (e : Ending) (w' : World) : Prop := Keep w w' ∧ ∃ (i : ImgV) (vp vs vi vb : Value) (ves : List Value) (u : Value), e = .returned (.tuple #[imgVal i vp vs vi vb, u]) ∧ ImgAt w' i vp vs vi vb ves ∧ OErr w' u (decIW l) ∧ ∀ y, decI l = .ok y → i = y
theorem IDecR.bad {l : List Nat} {w w' : World} {u : Value} {x : WrV} (k : Keep w w') (h : decI l = .error x) (hu : OErr w' u x) : IDecR l w (.returned (.tuple #[.agg #[.int .u32 0, .slice none 0 0, .slice none 0 0, .slice none 0 0, .int .i64 0, .int .u32 0, .slice none 0 0], u])) w' :=
  ⟨k, noImg, _, _, _, _, _, u, rfl, noImg_at _, by unfold decIW; rw [h]; exact hu, fun y hy => by rw [h] at hy; cases hy⟩
theorem IDecR.fine {l : List Nat} {w w' : World} {i : ImgV} {vp vs vi vb : Value} {ves : List Value} (k : Keep w w') (h : decI l = .ok i) (ha : ImgAt w' i vp vs vi vb ves) : IDecR l w (.returned (.tuple #[.agg #[.int .u32 i.size, vp, vs, vi, .int .i64 i.start, .int .u32 i.addr, vb], .nilIface])) w' :=
  ⟨k, i, _, _, _, _, _, _, rfl, ha, by unfold decIW; rw [h]; exact .isOk, fun y hy => by rw [h] at hy; cases hy; rfl⟩
set_option maxHeartbeats 4000000 in
set_option maxRecDepth 100000 in
theorem iDecode_aux (vb : Value) (l : List Nat) (w : World) (hl : SlAt w vb l.length (l.map byteV)) (hb : ∀ x ∈ l, x < 256) (few : l.length ≤ 100000) (hp : ErrT w) : Calls Tryd.prog 8 #[vb] w (IDecR l w) := by
  obtain ⟨W1, hW1⟩ : ∃ W1, W1 = w.alloc (.cells #[.int .u32 0, .slice none 0 0, .slice none 0 0, .slice none 0 0, .int .i64 0, .int .u32 0, .slice none 0 0] 28) := ⟨_, rfl⟩
  have K1 : Hid (Keep w W1) := Lib.hid (by rw [hW1]; exact (Keep.refl _).alloc _)
  have B1 : Hid (Box W1 w.heap.size #[.int .u32 0, .slice none 0 0, .slice none 0 0, .slice none 0 0, .int .i64 0, .int .u32 0, .slice none 0 0]) := Lib.hid (by rw [hW1]; exact Box.new _ _ _)
  have CR := Lib.hid (iread_any vb l W1 (hl.keep K1.out) hb few)
  have HP := Lib.hid hp
  have DL := Lib.hid (decI_read l)
  clear hl hb few hp
  go_enter Tryd.func8, Tryd.ntmps8
  go_wp2_with fail
  rw [← hW1]
  clear hW1
  refine CR.out.mono ?_
  rintro e w2 ⟨i, vp, vs, vi, vb2, ves, u, rfl, hk, hO, hN, hM, hX⟩
  have K2 := Lib.hid (K1.out.trans hk)
  have B2 := Lib.hid (B1.out.keep hk)
  have LB := Lib.hid B1.out.lt
  have hO2 := hO w2 (KeepBut.refl _ _)
  have HO := Lib.hid hO
  have HN := Lib.hid hN
  have HM := Lib.hid hM
  obtain ⟨pc, cc, rfl, _, _, _⟩ := hO2.parts
  obtain ⟨pd, cd, rfl, _, _, _⟩ := hO2.shares
  obtain ⟨ps, cs, rfl, _, _, _⟩ := hO2.inits
  obtain ⟨pr, cr, rfl, _, _, _⟩ := hO2.bytes
  obtain ⟨n1, hn1⟩ : ∃ n1, n1 = i.parts.length := ⟨_, rfl⟩
  obtain ⟨n2, hn2⟩ : ∃ n2, n2 = i.shares.length := ⟨_, rfl⟩
  obtain ⟨n3, hn3⟩ : ∃ n3, n3 = i.inits.length := ⟨_, rfl⟩
  obtain ⟨n4, hn4⟩ : ∃ n4, n4 = i.bytes.length := ⟨_, rfl⟩
  rw [← hn1, ← hn2, ← hn3, ← hn4] at HO
  unfold imgVal
  rw [← hn1, ← hn2, ← hn3, ← hn4]
  clear hn1 hn2 hn3 hn4
  clear hk CR B1 K1 hO2
  cases hR : readI l with
  | error e =>
    obtain ⟨a, c⟩ := e
    rw [hR] at hX
    obtain ⟨hc, hu⟩ := hX
    obtain ⟨q, hq⟩ := hu.bad hc
    have HU := Lib.hid (OErr.keep hu ((Keep.refl w2).alloc (.cells #[.int .u32 i.size, .slice pc n1 cc, .slice pd n2 cd, .slice ps n3 cs, .int .i64 i.start, .int .u32 i.addr, .slice pr n4 cr] 28)))
    have DE : Hid (decI l = .error (byteT, a, c)) := Lib.hid (by rw [DL.out, hR])
    have B3 := Lib.hid (B2.out.alloc (.cells #[.int .u32 i.size, .slice pc n1 cc, .slice pd n2 cd, .slice ps n3 cs, .int .i64 i.start, .int .u32 i.addr, .slice pr n4 cr] 28))
    have r0 := B3.out.cells
    have rf := B3.out.thawed
    subst hq
    clear hu hc hR DL HO HN HM hO hN hM
    unfold faultP
    go_wp2_with fail
    refine bodyPost_ret (v := .tuple #[.agg #[.int .u32 0, .slice none 0 0, .slice none 0 0, .slice none 0 0, .int .i64 0, .int .u32 0, .slice none 0 0], faultP q]) (by simp [results, Tryd.results8, go_sem, r0, faultP]; done) rfl ?_
    refine IDecR.bad ?_ DE.out (OErr.butBox HU.out B3.out (by decide) ?_)
    · repeat (with_reducible refine Keep.setAt ?_ ?_ _; · exact Nat.le_refl _)
      exact K2.out.alloc _
    · repeat (with_reducible refine KeepBut.setAt ?_ ?_ _; · exact .inl rfl)
      exact KeepBut.refl _ _
  | ok y =>
    obtain ⟨y, p⟩ := y
    rw [hR] at hX
    obtain ⟨rfl, rfl⟩ := hX
    have DE : Hid (decI l = if (imgW i).2.2 = 0 then .ok i else .error (imgW i)) := Lib.hid (by rw [DL.out, hR])
    have KA : Hid (Keep w2 (w2.alloc (.cells #[.int .u32 i.size, .slice pc n1 cc, .slice pd n2 cd, .slice ps n3 cs, .int .i64 i.start, .int .u32 i.addr, .slice pr n4 cr] 28))) := Lib.hid ((Keep.refl _).alloc _)
    have BO : Hid (Box (w2.alloc (.cells #[.int .u32 i.size, .slice pc n1 cc, .slice pd n2 cd, .slice ps n3 cs, .int .i64 i.start, .int .u32 i.addr, .slice pr n4 cr] 28)) w2.heap.size #[.int .u32 i.size, .slice pc n1 cc, .slice pd n2 cd, .slice ps n3 cs, .int .i64 i.start, .int .u32 i.addr, .slice pr n4 cr]) := Lib.hid (Box.new _ _ _)
    have CC := Lib.hid (icheck_any i _ _ _ _ _ _ (HO.out _ (KA.out.but _)) HM.out HN.out (HP.out.keep (K2.out.trans KA.out)))
    unfold imgVal at CC
    clear hR DL HM HN hO hN hM HP
    go_wp2_with fail
    refine CC.out.mono ?_
    rintro e w3 ⟨u, rfl, hu, hk⟩
    have HU := Lib.hid hu
    have K3 := Lib.hid (K2.out.trans (KA.out.trans hk))
    have B3 := Lib.hid (B2.out.keep (KA.out.trans hk))
    have O3 := Lib.hid (fun W (kb : KeepBut (fun z => z = w.heap.size) w3 W) => HO.out W (((KA.out.trans hk).but _).trans (kb.mono (fun z _ e => by have h2 : z = w.heap.size := e; have := LB.out; show z < W1.heap.size; omega))))
    have BO3 := Lib.hid (BO.out.keep hk)
    have r0 := B3.out.cells
    have rf := B3.out.thawed
    have co := BO3.out.cells
    clear hk CC BO KA B2 K2 HO
    by_cases z : (imgW i).2.2 = 0
    · obtain rfl : u = .nilIface := hu.good z
      have DE2 : Hid (decI l = .ok i) := Lib.hid (by rw [DE.out, if_pos z])
      clear hu z DE
      go_wp2_with fail
      refine bodyPost_ret (v := .tuple #[.agg #[.int .u32 i.size, .slice pc n1 cc, .slice pd n2 cd, .slice ps n3 cs, .int .i64 i.start, .int .u32 i.addr, .slice pr n4 cr], .nilIface]) (by simp [results, Tryd.results8, go_sem, r0]; done) rfl ?_
      refine IDecR.fine ?_ DE2.out (O3.out _ ?_)
      · repeat (with_reducible refine Keep.setAt ?_ ?_ _; · exact Nat.le_refl _)
        exact K3.out
      · repeat (with_reducible refine KeepBut.setAt ?_ ?_ _; · exact .inl rfl)
        exact KeepBut.refl _ _
    · obtain ⟨q, hq⟩ := hu.bad z
      have DE2 : Hid (decI l = .error (imgW i)) := Lib.hid (by rw [DE.out, if_neg z])
      subst hq
      clear hu z DE
      unfold faultP
      go_wp2_with fail
      refine bodyPost_ret (v := .tuple #[.agg #[.int .u32 0, .slice none 0 0, .slice none 0 0, .slice none 0 0, .int .i64 0, .int .u32 0, .slice none 0 0], faultP q]) (by simp [results, Tryd.results8, go_sem, r0, faultP]; done) rfl ?_
      refine IDecR.bad ?_ DE2.out (OErr.butBox HU.out B3.out (by decide) ?_)
      · repeat (with_reducible refine Keep.setAt ?_ ?_ _; · exact Nat.le_refl _)
        exact K3.out
      · repeat (with_reducible refine KeepBut.setAt ?_ ?_ _; · exact .inl rfl)
        exact KeepBut.refl _ _
theorem iDecode : PImgDecode ErrT := fun v l w hl hb few hp => iDecode_aux v l w hl hb few hp
end Go.Proofs.YtmcbeclkocjlkaaDoor
