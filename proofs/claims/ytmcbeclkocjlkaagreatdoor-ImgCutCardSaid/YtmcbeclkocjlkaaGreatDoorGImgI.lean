/- ImgInit, ImgInitJ: The reference's init: what is wrong of one. -/
import Derived.Test.YtmcbeclkocjlkaaGreatDoorGImgF
import Derived.Test.YtmcbeclkocjlkaaGreatDoorGBase
import Derived.IntWalk
/- The reference's init: what is wrong of one. -/
namespace Go.Proofs.YtmcbeclkocjlkaaGreatDoor
set_option linter.unusedVariables false
set_option linter.unusedSimpArgs false
open Go Go.RowKit
/-- What is asked of each kind. -/
def initK (i : ImgV) (c : PartV) (cm kd : Int) (da : Bool) (sr ad pm : Int) : Int :=
  if kd = 1 then
    (if sr ≠ 0 then 17 else if withinS (if da = true then c.data else c.code) ad 0 = false then 6 else if bits .andNot .u16 pm (mostP da) ≠ 0 then 3 else 0)
  else if kd = 2 then
    (if da = true ∨ pm ≠ 0 then 17 else if sr < 0 ∨ (i.parts.length : Int) ≤ sr then 6 else
      if (match i.parts[sr.toNat]? with
        | none => false
        | some f => amongI f.entries ad) = false then 12 else if sr = cm then 17 else 0)
  else if kd = 3 then
    (if da = true then 17 else if sr < 0 ∨ (i.shares.length : Int) ≤ sr ∨ (match i.shares[sr.toNat]? with
        | none => true
        | some s => decide (s.at_ ≠ ad)) = true then 6 else if pm = 0 ∨ 3 < pm then 3 else 0)
  else 17
theorem initE_F {i : ImgV} {k : Nat} {cm at_ kd : Int} {da : Bool} {sr ad pm : Int} (hs : i.inits[k]? = some ⟨cm, at_, kd, da, sr, ad, pm⟩) : initE i k =
    if cm < 0 ∨ (i.parts.length : Int) ≤ cm then 6 else
    match i.parts[cm.toNat]? with
    | none => 6
    | some c => if at_ % 16 ≠ 0 then 5 else if withinS c.data at_ 16 = false then 6 else if prevI i k at_ = true then 13 else initK i c cm kd da sr ad pm := by
  unfold initE initK
  rw [hs]
  rfl
def sr0 (sr : Int) (i : ImgV) (ad : Int) : Bool := match i.shares[sr.toNat]? with
  | none => true
  | some s => decide (s.at_ ≠ ad)
set_option maxHeartbeats 4000000 in
set_option maxRecDepth 100000 in
theorem rinit_0 (i : ImgV) (vp vs vi vb : Value) (ves : List Value) (x : InitV) (hs : i.inits[0]? = some x) (w : World) (h : ImgAt w i vp vs vi vb ves) (hf : ImgFew i) (hn : ImgNum i) :
    Calls Tryz.prog 18 #[imgVal i vp vs vi vb, .int .i64 0] w fun e w' => e = .returned (.int .i64 (initE i 0)) ∧ Keep w w' := by
  have hx := List.mem_of_getElem? hs
  obtain ⟨u0, u1⟩ := hn.at_ x hx
  obtain ⟨u2, u3⟩ := hn.iaddr x hx
  obtain ⟨u4, u5⟩ := hn.perm x hx
  have nves := h.nves
  have HEN := Lib.hid h.ents
  obtain ⟨pp, pcap, rfl, hpc, _, hpp⟩ := h.partsAt
  obtain ⟨sp, scap, rfl, hsc, _, hsp⟩ := h.sharesAt
  obtain ⟨q, cap, rfl, hcap, _, hq⟩ := h.initsAt
  rcases hq with e | ⟨b, off, rfl, hlt, hq⟩
  · rw [e] at hs; cases hs
  obtain ⟨n0, n1, n2, n3, n4, n5, n6⟩ := hq _ x hs
  have HPP := Lib.hid hpp
  have HSP := Lib.hid hsp
  have hi := (List.getElem?_eq_some_iff.1 hs).1
  have f0 := hf.parts
  have f1 := hf.shares
  have f2 := hf.inits
  have fen := Lib.hid hf.ents
  have HNU := Lib.hid hn
  have hii : (0 : Int) < (i.inits.length : Int) := by omega
  simp only [Nat.zero_mul, Nat.add_zero] at n0 n1 n2 n3 n4 n5 n6
  obtain ⟨cm, at_, kd, da, sr, ad, pm⟩ := x
  dsimp only at u0 u1 u2 u3 u4 u5 n0 n1 n2 n3 n4 n5 n6
  have HE := Lib.hid (initE_F hs)
  have ep : prevI i 0 at_ = false := rfl
  rw [ep] at HE
  clear ep
  unfold imgVal
  have K0 : Hid (Keep w ((w.alloc (.cells #[.int .u32 i.size, .slice pp i.parts.length pcap, .slice sp i.shares.length scap, .slice (some ⟨b, off, none⟩) i.inits.length cap, .int .i64 i.start, .int .u32 i.addr, vb] 39)).alloc (.cells #[.int .i64 cm, .int .u32 at_, .int .i64 kd, .bool da, .int .i64 sr, .int .u32 ad, .int .u16 pm] 69))) := Lib.hid (((Keep.refl _).alloc _).alloc _)
  have B1 : Hid (Box ((w.alloc (.cells #[.int .u32 i.size, .slice pp i.parts.length pcap, .slice sp i.shares.length scap, .slice (some ⟨b, off, none⟩) i.inits.length cap, .int .i64 i.start, .int .u32 i.addr, vb] 39)).alloc (.cells #[.int .i64 cm, .int .u32 at_, .int .i64 kd, .bool da, .int .i64 sr, .int .u32 ad, .int .u16 pm] 69)) w.heap.size #[.int .u32 i.size, .slice pp i.parts.length pcap, .slice sp i.shares.length scap, .slice (some ⟨b, off, none⟩) i.inits.length cap, .int .i64 i.start, .int .u32 i.addr, vb]) := Lib.hid ((Box.new _ _ _).alloc _)
  have B2 : Hid (Box ((w.alloc (.cells #[.int .u32 i.size, .slice pp i.parts.length pcap, .slice sp i.shares.length scap, .slice (some ⟨b, off, none⟩) i.inits.length cap, .int .i64 i.start, .int .u32 i.addr, vb] 39)).alloc (.cells #[.int .i64 cm, .int .u32 at_, .int .i64 kd, .bool da, .int .i64 sr, .int .u32 ad, .int .u16 pm] 69)) (w.heap.size + 1) #[.int .i64 cm, .int .u32 at_, .int .i64 kd, .bool da, .int .i64 sr, .int .u32 ad, .int .u16 pm]) := Lib.hid (Box.new1 _ _ _ _)
  clear h hf hn hs hx hq hpp hsp hcap
  by_cases lo : cm < 0
  · go_enter Tryz.func18, Tryz.ntmps18
    go_wp2_with fail
    go_ret
    refine ⟨?_, K0.out⟩
    rw [HE.out, if_pos (.inl lo)] <;> rfl
  have lo' : decide (cm < 0) = false := decide_eq_false lo
  by_cases hc : (i.parts.length : Int) ≤ cm
  · go_enter Tryz.func18, Tryz.ntmps18
    go_wp2_with fail
    go_ret
    refine ⟨?_, K0.out⟩
    rw [HE.out, if_pos (.inr hc)] <;> rfl
  have hc' : decide ((i.parts.length : Int) ≤ cm) = false := decide_eq_false hc
  obtain ⟨m, rfl⟩ : ∃ m : Nat, cm = (m : Int) := ⟨cm.toNat, by omega⟩
  have hm : m < i.parts.length := by omega
  have hmi : (m : Int) < (i.parts.length : Int) := by omega
  obtain ⟨c, hpc⟩ : ∃ c, i.parts[m]? = some c := ⟨_, List.getElem?_eq_getElem hm⟩
  obtain ⟨ve, hve⟩ : ∃ ve, ves[m]? = some ve := ⟨_, List.getElem?_eq_getElem (by omega)⟩
  have HSO := Lib.hid (part_spans HNU.out hpc)
  have HE1 : Hid (initE i 0 = if at_ % 16 ≠ 0 then 5 else if withinS c.data at_ 16 = false then 6 else if false = true then 13 else initK i c (m : Int) kd da sr ad pm) := Lib.hid (by rw [HE.out, if_neg (by omega), Int.toNat_natCast, hpc])
  obtain ⟨pb, po, rfl, hpl, hcs⟩ : ∃ b off, pp = some ⟨b, off, none⟩ ∧ b < w.heap.size ∧ (∀ (k : Nat) (x : PartV) (v : Value), i.parts[k]? = some x → ves[k]? = some v → _) := by
    rcases HPP.out with e | e
    · rw [e] at hpc; cases hpc
    · exact e
  have HPC := Lib.hid (fun k x v a b => hcs k x v a b)
  obtain ⟨q0, q1, q2, q3, q4, q5, q6, q7⟩ := hcs m c ve hpc hve
  have Q1 := Lib.hid q1
  have Q2 := Lib.hid q2
  have Q3 := Lib.hid q3
  have Q4 := Lib.hid q4
  have HPM := Lib.hid hpc
  clear hcs q0 q1 q2 q3 q4 q5 q6 q7 hpc HE HPP
  go_enter Tryz.func18, Tryz.ntmps18
  rcases Bool.eq_false_or_eq_true (at_ % 16 == 0) with a1 | a1
  rotate_left
  · have a2 : (at_ % 16 != 0) = true := by rw [bne, a1]; rfl
    go_wp2_with fail
    go_ret
    refine ⟨?_, K0.out⟩
    rw [HE1.out, if_pos (beq_eq_false_iff_ne.1 a1)] <;> rfl
  have a2 : (at_ % 16 != 0) = false := by rw [bne, a1]; rfl
  have AR := Lib.hid (show ¬ at_ % 16 ≠ 0 from fun h => h (beq_iff_eq.1 a1))
  have CW := Lib.hid (fun W => rwithin_any c.data at_ 16 HSO.out.2.1 ⟨u0, u1⟩ ⟨by decide, by decide⟩ W)
  unfold spanVal at CW
  obtain ⟨wd, hwd⟩ : ∃ wd, withinS c.data at_ 16 = wd := ⟨_, rfl⟩
  rw [hwd] at CW
  have HWD := Lib.hid hwd
  clear hwd
  go_wp2_with fail
  refine region_grows (Keep _) (by kernel_rfl) (by kernel_rfl) (Keep.refl _).drew ?_
  repeat (first
    | (apply text_pass (by rfl); go_simp)
    | (apply text_step (by rfl)
       · intro W hW
         have c1 := (B1.out.keep hW).cells
         have c2 := (B2.out.keep hW).cells
         have c3 := (K0.out.trans hW).cellOf Q3.out
         have c4 := (K0.out.trans hW).cellOf Q4.out
         go_simp
         first
           | exact ⟨rfl, hW⟩
           | (apply yes_enter; go_at_call 17; refine (CW.out _).mono ?_; rintro e w' ⟨rfl, hk⟩; first | (subst hk; exact ⟨rfl, hW⟩) | exact ⟨rfl, hW.trans hk⟩)
       go_simp))
  apply text_end
  intro W hW
  have KW := Lib.hid (K0.out.trans hW)
  have B1W := Lib.hid (B1.out.keep hW)
  have B2W := Lib.hid (B2.out.keep hW)
  have c1 := B1W.out.cells
  have c2 := B2W.out.cells
  clear hW n0 n1 n2 n3 n4 n5 n6 CW
  cases wd with
  | false =>
    go_wp2_with fail
    go_ret
    refine ⟨?_, KW.out⟩
    rw [HE1.out, if_neg AR.out, if_pos HWD.out] <;> rfl
  | true =>
  have WR := Lib.hid (show ¬ withinS c.data at_ 16 = false by rw [HWD.out]; decide)
  clear c1 c2
  go_wp2_with fail
  refine region_grows (Keep _) (by kernel_rfl) (by kernel_rfl) (Keep.refl _).drew ?_
  repeat (first
    | (apply text_pass (by rfl); go_simp)
    | (apply text_step (by rfl)
       · intro W hW
         have c1 := (B1W.out.keep hW).cells
         have c2 := (B2W.out.keep hW).cells
         go_simp
         first
           | exact ⟨rfl, hW⟩
       go_simp))
  apply text_end
  intro V hV
  have KV := Lib.hid (KW.out.trans hV)
  have B1V := Lib.hid (B1W.out.keep hV)
  have B2V := Lib.hid (B2W.out.keep hV)
  have c1 := B1V.out.cells
  have c2 := B2V.out.cells
  clear hV KW B1W B2W
  have VR : Hid (¬ false = true) := Lib.hid (by decide)
  have HE2 : Hid (initE i 0 = initK i c (m : Int) kd da sr ad pm) := Lib.hid (by rw [HE1.out, if_neg AR.out, if_neg WR.out, if_neg VR.out])
  by_cases k1 : kd = 1
  · subst k1
    have HK : Hid (initK i c (m : Int) 1 da sr ad pm = if sr ≠ 0 then 17 else if withinS (if da = true then c.data else c.code) ad 0 = false then 6 else if bits .andNot .u16 pm (mostP da) ≠ 0 then 3 else 0) := Lib.hid (by unfold initK; rw [if_pos rfl])
    have d1 := KV.out.cellOf Q1.out
    have d2 := KV.out.cellOf Q2.out
    cases da with
    | false =>
      have e2 := fun o => (B2V.out.alloc o).cells



      rcases Bool.eq_false_or_eq_true (sr == 0) with z | z
      rotate_left
      · have z2 : (sr != 0) = true := by rw [bne, z]; rfl
        go_wp2_with fail
        go_ret
        refine ⟨?_, KV.out.alloc _⟩
        rw [HE2.out, HK.out, if_pos (beq_eq_false_iff_ne.1 z)] <;> rfl
      have z2 : (sr != 0) = false := by rw [bne, z]; rfl
      have ZR := Lib.hid (show ¬ sr ≠ 0 from fun h => h (beq_iff_eq.1 z))
      have CW := Lib.hid (fun W => rwithin_any c.code ad 0 HSO.out.1 ⟨u2, u3⟩ ⟨by decide, by decide⟩ W)
      unfold spanVal at CW
      obtain ⟨wd, hwd⟩ : ∃ wd, withinS c.code ad 0 = wd := ⟨_, rfl⟩
      rw [hwd] at CW
      have HWD2 : Hid (withinS (if false = true then c.data else c.code) ad 0 = wd) := Lib.hid hwd
      clear hwd
      go_wp2_with fail
      refine (CW.out _).mono ?_
      rintro e D ⟨rfl, hD⟩
      have KD := Lib.hid ((KV.out.alloc _).trans hD)
      have B1D := Lib.hid ((B1V.out.alloc _).keep hD)
      have B2D := Lib.hid ((B2V.out.alloc _).keep hD)
      clear hD e2 c1 c2 d1 d2 CW
      cases wd with
      | false =>
        go_wp2_with fail
        go_ret
        refine ⟨?_, KD.out⟩
        rw [HE2.out, HK.out, if_neg ZR.out, if_pos HWD2.out] <;> rfl
      | true =>
      have WR2 : Hid (¬ withinS (if false = true then c.data else c.code) ad 0 = false) := Lib.hid (fun h => absurd ((show withinS (if false = true then c.data else c.code) ad 0 = true from HWD2.out).symm.trans h) (by decide))
      have CM := Lib.hid (fun W => rmost_any false W)
      obtain ⟨mv, hmv, hm2⟩ : ∃ mv, mostP false = mv ∧ (mv = 27 ∨ mv = 13) := ⟨_, rfl, by simp [mostP]⟩
      rw [hmv] at CM
      go_wp2_with fail
      refine region_grows (Keep _) (by kernel_rfl) (by kernel_rfl) (Keep.refl _).drew ?_
      repeat (first
        | (apply text_pass (by rfl); go_simp)
        | (apply text_step (by rfl)
           · intro W hW
             have e1 := (B1D.out.keep hW).cells
             have e2 := (B2D.out.keep hW).cells
             go_simp
             first
               | exact ⟨rfl, hW⟩
               | (apply yes_enter; go_at_call 42; refine (CM.out _).mono ?_; rintro e w' ⟨rfl, hk⟩; first | (subst hk; exact ⟨rfl, hW⟩) | exact ⟨rfl, hW.trans hk⟩)
           go_simp))
      apply text_end
      intro E hE
      have KE := Lib.hid (KD.out.trans hE)
      clear hE
      rcases Bool.eq_false_or_eq_true (bits .andNot .u16 pm mv != 0) with mz | mz
      · go_wp2_with fail
        go_ret
        refine ⟨?_, KE.out⟩
        rw [HE2.out, HK.out, if_neg ZR.out, if_neg WR2.out, hmv, if_pos (by simpa using mz)] <;> rfl
      · go_wp2_with fail
        go_ret
        refine ⟨?_, KE.out⟩
        rw [HE2.out, HK.out, if_neg ZR.out, if_neg WR2.out, hmv, if_neg (by simpa using mz)] <;> rfl
    | true =>
      have e2 := fun o => (B2V.out.alloc o).cells
      have d3 := fun o => (KV.out.alloc o).cellOf Q3.out
      have d4 := fun o => (KV.out.alloc o).cellOf Q4.out
      have e1 := fun o => (B1V.out.alloc o).cells
      rcases Bool.eq_false_or_eq_true (sr == 0) with z | z
      rotate_left
      · have z2 : (sr != 0) = true := by rw [bne, z]; rfl
        go_wp2_with fail
        go_ret
        refine ⟨?_, KV.out.alloc _⟩
        rw [HE2.out, HK.out, if_pos (beq_eq_false_iff_ne.1 z)] <;> rfl
      have z2 : (sr != 0) = false := by rw [bne, z]; rfl
      have ZR := Lib.hid (show ¬ sr ≠ 0 from fun h => h (beq_iff_eq.1 z))
      have CW := Lib.hid (fun W => rwithin_any c.data ad 0 HSO.out.2.1 ⟨u2, u3⟩ ⟨by decide, by decide⟩ W)
      unfold spanVal at CW
      obtain ⟨wd, hwd⟩ : ∃ wd, withinS c.data ad 0 = wd := ⟨_, rfl⟩
      rw [hwd] at CW
      have HWD2 : Hid (withinS (if true = true then c.data else c.code) ad 0 = wd) := Lib.hid hwd
      clear hwd
      go_wp2_with fail
      refine (CW.out _).mono ?_
      rintro e D ⟨rfl, hD⟩
      have KD := Lib.hid ((KV.out.alloc _).trans hD)
      have B1D := Lib.hid ((B1V.out.alloc _).keep hD)
      have B2D := Lib.hid ((B2V.out.alloc _).keep hD)
      clear hD e2 c1 c2 d1 d2 CW
      cases wd with
      | false =>
        go_wp2_with fail
        go_ret
        refine ⟨?_, KD.out⟩
        rw [HE2.out, HK.out, if_neg ZR.out, if_pos HWD2.out] <;> rfl
      | true =>
      have WR2 : Hid (¬ withinS (if true = true then c.data else c.code) ad 0 = false) := Lib.hid (fun h => absurd ((show withinS (if true = true then c.data else c.code) ad 0 = true from HWD2.out).symm.trans h) (by decide))
      have CM := Lib.hid (fun W => rmost_any true W)
      obtain ⟨mv, hmv, hm2⟩ : ∃ mv, mostP true = mv ∧ (mv = 27 ∨ mv = 13) := ⟨_, rfl, by simp [mostP]⟩
      rw [hmv] at CM
      go_wp2_with fail
      refine region_grows (Keep _) (by kernel_rfl) (by kernel_rfl) (Keep.refl _).drew ?_
      repeat (first
        | (apply text_pass (by rfl); go_simp)
        | (apply text_step (by rfl)
           · intro W hW
             have e1 := (B1D.out.keep hW).cells
             have e2 := (B2D.out.keep hW).cells
             go_simp
             first
               | exact ⟨rfl, hW⟩
               | (apply yes_enter; go_at_call 42; refine (CM.out _).mono ?_; rintro e w' ⟨rfl, hk⟩; first | (subst hk; exact ⟨rfl, hW⟩) | exact ⟨rfl, hW.trans hk⟩)
           go_simp))
      apply text_end
      intro E hE
      have KE := Lib.hid (KD.out.trans hE)
      clear hE
      rcases Bool.eq_false_or_eq_true (bits .andNot .u16 pm mv != 0) with mz | mz
      · go_wp2_with fail
        go_ret
        refine ⟨?_, KE.out⟩
        rw [HE2.out, HK.out, if_neg ZR.out, if_neg WR2.out, hmv, if_pos (by simpa using mz)] <;> rfl
      · go_wp2_with fail
        go_ret
        refine ⟨?_, KE.out⟩
        rw [HE2.out, HK.out, if_neg ZR.out, if_neg WR2.out, hmv, if_neg (by simpa using mz)] <;> rfl
  by_cases k2 : kd = 2
  · subst k2
    have HK : Hid (initK i c (m : Int) 2 da sr ad pm = if da = true ∨ pm ≠ 0 then 17 else if sr < 0 ∨ (i.parts.length : Int) ≤ sr then 6 else if (match i.parts[sr.toNat]? with
        | none => false
        | some f => amongI f.entries ad) = false then 12 else if sr = (m : Int) then 17 else 0) := Lib.hid (by unfold initK; rw [if_neg (by decide), if_pos rfl])
    cases da with
    | true =>
      go_wp2_with fail
      go_ret
      refine ⟨?_, KV.out⟩
      first | (rw [HE2.out, HK.out, if_pos (.inl rfl)] <;> rfl) | (rw [HE2.out, HK.out, if_pos (.inl trivial)] <;> rfl)
    | false =>
    rcases Bool.eq_false_or_eq_true (pm == 0) with z | z
    rotate_left
    · have z2 : (pm != 0) = true := by rw [bne, z]; rfl
      go_wp2_with fail
      go_ret
      refine ⟨?_, KV.out⟩
      rw [HE2.out, HK.out, if_pos (.inr (beq_eq_false_iff_ne.1 z))] <;> rfl
    have z2 : (pm != 0) = false := by rw [bne, z]; rfl
    have pz : pm = 0 := beq_iff_eq.1 z
    have ZR := Lib.hid (show ¬ (false = true ∨ pm ≠ 0) by rintro (h | h); cases h; exact h pz)
    clear pz
    by_cases s0 : sr < 0
    · have s0' : decide (sr < 0) = true := decide_eq_true s0
      go_wp2_with fail
      go_ret
      refine ⟨?_, KV.out⟩
      rw [HE2.out, HK.out, if_neg ZR.out, if_pos (.inl s0)] <;> rfl
    have s0' : decide (sr < 0) = false := decide_eq_false s0
    by_cases s1 : (i.parts.length : Int) ≤ sr
    · have s1' : decide ((i.parts.length : Int) ≤ sr) = true := decide_eq_true s1
      go_wp2_with fail
      go_ret
      refine ⟨?_, KV.out⟩
      rw [HE2.out, HK.out, if_neg ZR.out, if_pos (.inr s1)] <;> rfl
    have s1' : decide ((i.parts.length : Int) ≤ sr) = false := decide_eq_false s1
    have SR := Lib.hid (show ¬ (sr < 0 ∨ (i.parts.length : Int) ≤ sr) by omega)
    obtain ⟨n, rfl⟩ : ∃ n : Nat, sr = (n : Int) := ⟨sr.toNat, by omega⟩
    have hni : (n : Int) < (i.parts.length : Int) := by omega
    obtain ⟨g, hg⟩ : ∃ g, i.parts[n]? = some g := ⟨_, List.getElem?_eq_getElem (by omega)⟩
    obtain ⟨vg, hvg⟩ : ∃ vg, ves[n]? = some vg := ⟨_, List.getElem?_eq_getElem (by omega)⟩
    have G7 := Lib.hid (HPC.out n g vg hg hvg).2.2.2.2.2.2.2
    have HNG : Hid (NumsAt w vg g.entries) := Lib.hid (HEN.out n g vg hg hvg)
    have HGN : Hid (g.entries.length ≤ 70) := Lib.hid (fen.out g (List.mem_of_getElem? hg))
    have CA := Lib.hid (fun W (hW : Keep w W) => ramong_any vg g.entries ad W (SlAt.keep HNG.out hW) (by have := HGN.out; omega))
    obtain ⟨am, ham⟩ : ∃ am, amongI g.entries ad = am := ⟨_, rfl⟩
    rw [ham] at CA
    have HAM : Hid ((match i.parts[((n : Int)).toNat]? with
        | none => false
        | some f => amongI f.entries ad) = am) := Lib.hid (by rw [Int.toNat_natCast, hg]; exact ham)
    clear ham hg hvg
    go_wp2_with fail
    refine region_grows (Keep _) (by kernel_rfl) (by kernel_rfl) (Keep.refl _).drew ?_
    repeat (first
      | (apply text_pass (by rfl); go_simp)
      | (apply text_step (by rfl)
         · intro W hW
           have e1 := (B1V.out.keep hW).cells
           have e2 := (B2V.out.keep hW).cells
           have e3 := (KV.out.trans hW).cellOf G7.out
           go_simp
           first
             | exact ⟨rfl, hW⟩
             | (apply yes_enter; go_at_call 19; refine (CA.out _ (KV.out.trans hW)).mono ?_; rintro e w' ⟨rfl, hk⟩; first | (subst hk; exact ⟨rfl, hW⟩) | exact ⟨rfl, hW.trans hk⟩)
         go_simp))
    apply text_end
    intro E hE
    have KE := Lib.hid (KV.out.trans hE)
    have e1 := (B1V.out.keep hE).cells
    have e2 := (B2V.out.keep hE).cells
    clear hE c1 c2
    cases am with
    | false =>
      go_wp2_with fail
      go_ret
      refine ⟨?_, KE.out⟩
      rw [HE2.out, HK.out, if_neg ZR.out, if_neg SR.out, if_pos HAM.out] <;> rfl
    | true =>
    have AM2 : Hid (¬ (match i.parts[((n : Int)).toNat]? with
        | none => false
        | some f => amongI f.entries ad) = false) := Lib.hid (fun h => absurd (HAM.out.symm.trans h) (by decide))
    by_cases en : n = m
    · subst en
      have q0 : ((n : Int) == (n : Int)) = true := by simp
      go_wp2_with fail
      go_ret
      refine ⟨?_, KE.out⟩
      first | (rw [HE2.out, HK.out, if_neg ZR.out, if_neg SR.out, if_neg AM2.out, if_pos rfl] <;> rfl) | (rw [HE2.out, HK.out, if_neg ZR.out, if_neg SR.out, if_neg AM2.out, if_pos trivial] <;> rfl)
    · have q0 : ((n : Int) == (m : Int)) = false := by simp; omega
      have q1 := Lib.hid (show ¬ (n : Int) = (m : Int) by omega)
      go_wp2_with fail
      go_ret
      refine ⟨?_, KE.out⟩
      rw [HE2.out, HK.out, if_neg ZR.out, if_neg SR.out, if_neg AM2.out, if_neg q1.out] <;> rfl
  by_cases k3 : kd = 3
  · subst k3
    have HK : Hid (initK i c (m : Int) 3 da sr ad pm = if da = true then 17 else if sr < 0 ∨ (i.shares.length : Int) ≤ sr ∨ sr0 sr i ad = true then 6 else if pm = 0 ∨ 3 < pm then 3 else 0) := Lib.hid (by unfold initK; rw [if_neg (by decide), if_neg (by decide), if_pos rfl]; rfl)
    cases da with
    | true =>
      go_wp2_with fail
      go_ret
      refine ⟨?_, KV.out⟩
      first | (rw [HE2.out, HK.out, if_pos rfl] <;> rfl) | (rw [HE2.out, HK.out, if_pos trivial] <;> rfl)
    | false =>
    have ZR := Lib.hid (show ¬ false = true by decide)
    by_cases s0 : sr < 0
    · have s0' : decide (sr < 0) = true := decide_eq_true s0
      go_wp2_with fail
      refine region_grows (Keep _) (by kernel_rfl) (by kernel_rfl) (Keep.refl _).drew ?_
      repeat (first
        | (apply text_pass (by rfl); go_simp)
        | (apply text_step (by rfl)
           · intro W hW
             have e1 := (B1V.out.keep hW).cells
             have e2 := (B2V.out.keep hW).cells
             go_simp
             first
               | exact ⟨rfl, hW⟩
           go_simp))
      apply text_end
      intro E hE
      have KE := Lib.hid (KV.out.trans hE)
      have e1 := (B1V.out.keep hE).cells
      have e2 := (B2V.out.keep hE).cells
      clear hE c1 c2
      go_wp2_with fail
      go_ret
      refine ⟨?_, KE.out⟩
      rw [HE2.out, HK.out, if_neg ZR.out, if_pos (.inl s0)] <;> rfl
    have s0' : decide (sr < 0) = false := decide_eq_false s0
    by_cases s1 : (i.shares.length : Int) ≤ sr
    · have s1' : decide ((i.shares.length : Int) ≤ sr) = true := decide_eq_true s1
      go_wp2_with fail
      refine region_grows (Keep _) (by kernel_rfl) (by kernel_rfl) (Keep.refl _).drew ?_
      repeat (first
        | (apply text_pass (by rfl); go_simp)
        | (apply text_step (by rfl)
           · intro W hW
             have e1 := (B1V.out.keep hW).cells
             have e2 := (B2V.out.keep hW).cells
             go_simp
             first
               | exact ⟨rfl, hW⟩
           go_simp))
      apply text_end
      intro E hE
      have KE := Lib.hid (KV.out.trans hE)
      have e1 := (B1V.out.keep hE).cells
      have e2 := (B2V.out.keep hE).cells
      clear hE c1 c2
      go_wp2_with fail
      go_ret
      refine ⟨?_, KE.out⟩
      rw [HE2.out, HK.out, if_neg ZR.out, if_pos (.inr (.inl s1))] <;> rfl
    have s1' : decide ((i.shares.length : Int) ≤ sr) = false := decide_eq_false s1
    obtain ⟨n, rfl⟩ : ∃ n : Nat, sr = (n : Int) := ⟨sr.toNat, by omega⟩
    have hni : (n : Int) < (i.shares.length : Int) := by omega
    have hnn : n < i.shares.length := by omega
    have hnl : ¬ i.shares.length ≤ n := by omega
    have hnd : decide (i.shares.length ≤ n) = false := decide_eq_false hnl
    obtain ⟨g, hg⟩ : ∃ g, i.shares[n]? = some g := ⟨_, List.getElem?_eq_getElem (by omega)⟩
    obtain ⟨sb, so, rfl, hsl, hss⟩ : ∃ b off, sp = some ⟨b, off, none⟩ ∧ b < w.heap.size ∧ (∀ (k : Nat) (x : SpanV), i.shares[k]? = some x → _) := by
      rcases HSP.out with e | e
      · rw [e] at hg; cases hg
      · exact e
    have G0 := Lib.hid (hss n g hg).1
    have HG := Lib.hid hg
    clear hss hg HSP
    rcases Bool.eq_false_or_eq_true (g.at_ != ad) with y | y
    · have Y : Hid (sr0 (n : Int) i ad = true) := Lib.hid (by unfold sr0; rw [Int.toNat_natCast, HG.out]; simpa using y)
      go_wp2_with fail
      refine region_grows (Keep _) (by kernel_rfl) (by kernel_rfl) (Keep.refl _).drew ?_
      repeat (first
        | (apply text_pass (by rfl); go_simp)
        | (apply text_step (by rfl)
           · intro W hW
             have e1 := (B1V.out.keep hW).cells
             have e2 := (B2V.out.keep hW).cells
             have e3 := (KV.out.trans hW).cellOf G0.out
             go_simp
             first
               | exact ⟨rfl, hW⟩
           go_simp))
      apply text_end
      intro E hE
      have KE := Lib.hid (KV.out.trans hE)
      have e1 := (B1V.out.keep hE).cells
      have e2 := (B2V.out.keep hE).cells
      clear hE c1 c2
      go_wp2_with fail
      go_ret
      refine ⟨?_, KE.out⟩
      rw [HE2.out, HK.out, if_neg ZR.out, if_pos (.inr (.inr Y.out))] <;> rfl
    have Y : Hid (¬ ((n : Int) < 0 ∨ (i.shares.length : Int) ≤ (n : Int) ∨ sr0 (n : Int) i ad = true)) := Lib.hid (by
      rintro (h | h | h)
      · omega
      · omega
      · unfold sr0 at h; rw [Int.toNat_natCast, HG.out] at h; simp at h y; exact h y)
    go_wp2_with fail
    refine region_grows (Keep _) (by kernel_rfl) (by kernel_rfl) (Keep.refl _).drew ?_
    repeat (first
      | (apply text_pass (by rfl); go_simp)
      | (apply text_step (by rfl)
         · intro W hW
           have e1 := (B1V.out.keep hW).cells
           have e2 := (B2V.out.keep hW).cells
           have e3 := (KV.out.trans hW).cellOf G0.out
           go_simp
           first
             | exact ⟨rfl, hW⟩
         go_simp))
    apply text_end
    intro E hE
    have KE := Lib.hid (KV.out.trans hE)
    have e1 := (B1V.out.keep hE).cells
    have e2 := (B2V.out.keep hE).cells
    clear hE c1 c2
    by_cases p0 : pm = 0
    · have p0' : (pm == 0) = true := by rw [p0]; rfl
      go_wp2_with fail
      go_ret
      refine ⟨?_, KE.out⟩
      rw [HE2.out, HK.out, if_neg ZR.out, if_neg Y.out, if_pos (.inl p0)] <;> rfl
    have p0' : (pm == 0) = false := beq_eq_false_iff_ne.2 p0
    by_cases p1 : 3 < pm
    · have p1' : decide (3 < pm) = true := decide_eq_true p1
      go_wp2_with fail
      go_ret
      refine ⟨?_, KE.out⟩
      rw [HE2.out, HK.out, if_neg ZR.out, if_neg Y.out, if_pos (.inr p1)] <;> rfl
    have p1' : decide (3 < pm) = false := decide_eq_false p1
    have PR := Lib.hid (show ¬ (pm = 0 ∨ 3 < pm) by omega)
    go_wp2_with fail
    go_ret
    refine ⟨?_, KE.out⟩
    rw [HE2.out, HK.out, if_neg ZR.out, if_neg Y.out, if_neg PR.out] <;> rfl
  have k1' : (kd == 1) = false := beq_eq_false_iff_ne.2 k1
  have k2' : (kd == 2) = false := beq_eq_false_iff_ne.2 k2
  have k3' : (kd == 3) = false := beq_eq_false_iff_ne.2 k3
  have HK : Hid (initK i c (m : Int) kd da sr ad pm = 17) := Lib.hid (by unfold initK; rw [if_neg k1, if_neg k2, if_neg k3])
  go_wp2_with fail
  go_ret
  refine ⟨?_, KV.out⟩
  rw [HE2.out, HK.out] <;> rfl
end Go.Proofs.YtmcbeclkocjlkaaGreatDoor

/- The reference's init at a place behind the first; at any place. -/
namespace Go.Proofs.YtmcbeclkocjlkaaGreatDoor
set_option linter.unusedVariables false
set_option linter.unusedSimpArgs false
open Go Go.RowKit
set_option maxHeartbeats 4000000 in
set_option maxRecDepth 100000 in
theorem rinit_j (i : ImgV) (vp vs vi vb : Value) (ves : List Value) (j : Nat) (x p : InitV) (hs : i.inits[j + 1]? = some x) (hp : i.inits[j]? = some p) (w : World) (h : ImgAt w i vp vs vi vb ves) (hf : ImgFew i) (hn : ImgNum i) :
    Calls Tryz.prog 18 #[imgVal i vp vs vi vb, .int .i64 ((j : Int) + 1)] w fun e w' => e = .returned (.int .i64 (initE i (j + 1))) ∧ Keep w w' := by
  have hx := List.mem_of_getElem? hs
  obtain ⟨u0, u1⟩ := hn.at_ x hx
  obtain ⟨u2, u3⟩ := hn.iaddr x hx
  obtain ⟨u4, u5⟩ := hn.perm x hx
  have nves := h.nves
  have HEN := Lib.hid h.ents
  obtain ⟨pp, pcap, rfl, hpc, _, hpp⟩ := h.partsAt
  obtain ⟨sp, scap, rfl, hsc, _, hsp⟩ := h.sharesAt
  obtain ⟨q, cap, rfl, hcap, _, hq⟩ := h.initsAt
  rcases hq with e | ⟨b, off, rfl, hlt, hq⟩
  · rw [e] at hs; cases hs
  obtain ⟨n0, n1, n2, n3, n4, n5, n6⟩ := hq _ x hs
  have P1 := Lib.hid (hq _ p hp).2.1
  have wi : IntKind.i64.wrap (j : Int) = (j : Int) := by
    have := (List.getElem?_eq_some_iff.1 hs).1
    have := hf.inits
    rw [IntKind.wrap_i64]; omega
  have HPP := Lib.hid hpp
  have HSP := Lib.hid hsp
  have hi := (List.getElem?_eq_some_iff.1 hs).1
  have f0 := hf.parts
  have f1 := hf.shares
  have f2 := hf.inits
  have fen := Lib.hid hf.ents
  have HNU := Lib.hid hn
  have hii : (j : Int) + 1 < (i.inits.length : Int) := by omega
  have hi1 : (j : Int) < (i.inits.length : Int) := by omega
  obtain ⟨cm, at_, kd, da, sr, ad, pm⟩ := x
  dsimp only at u0 u1 u2 u3 u4 u5 n0 n1 n2 n3 n4 n5 n6
  have HE := Lib.hid (initE_F hs)
  have ep : prevI i (j + 1) at_ = decide (at_ ≤ p.at_) := by unfold prevI; simp only [hp]
  rw [ep] at HE
  clear ep hp
  unfold imgVal
  have K0 : Hid (Keep w ((w.alloc (.cells #[.int .u32 i.size, .slice pp i.parts.length pcap, .slice sp i.shares.length scap, .slice (some ⟨b, off, none⟩) i.inits.length cap, .int .i64 i.start, .int .u32 i.addr, vb] 39)).alloc (.cells #[.int .i64 cm, .int .u32 at_, .int .i64 kd, .bool da, .int .i64 sr, .int .u32 ad, .int .u16 pm] 69))) := Lib.hid (((Keep.refl _).alloc _).alloc _)
  have B1 : Hid (Box ((w.alloc (.cells #[.int .u32 i.size, .slice pp i.parts.length pcap, .slice sp i.shares.length scap, .slice (some ⟨b, off, none⟩) i.inits.length cap, .int .i64 i.start, .int .u32 i.addr, vb] 39)).alloc (.cells #[.int .i64 cm, .int .u32 at_, .int .i64 kd, .bool da, .int .i64 sr, .int .u32 ad, .int .u16 pm] 69)) w.heap.size #[.int .u32 i.size, .slice pp i.parts.length pcap, .slice sp i.shares.length scap, .slice (some ⟨b, off, none⟩) i.inits.length cap, .int .i64 i.start, .int .u32 i.addr, vb]) := Lib.hid ((Box.new _ _ _).alloc _)
  have B2 : Hid (Box ((w.alloc (.cells #[.int .u32 i.size, .slice pp i.parts.length pcap, .slice sp i.shares.length scap, .slice (some ⟨b, off, none⟩) i.inits.length cap, .int .i64 i.start, .int .u32 i.addr, vb] 39)).alloc (.cells #[.int .i64 cm, .int .u32 at_, .int .i64 kd, .bool da, .int .i64 sr, .int .u32 ad, .int .u16 pm] 69)) (w.heap.size + 1) #[.int .i64 cm, .int .u32 at_, .int .i64 kd, .bool da, .int .i64 sr, .int .u32 ad, .int .u16 pm]) := Lib.hid (Box.new1 _ _ _ _)
  clear h hf hn hs hx hq hpp hsp hcap
  by_cases lo : cm < 0
  · go_enter Tryz.func18, Tryz.ntmps18
    go_wp2_with fail
    go_ret
    refine ⟨?_, K0.out⟩
    rw [HE.out, if_pos (.inl lo)] <;> rfl
  have lo' : decide (cm < 0) = false := decide_eq_false lo
  by_cases hc : (i.parts.length : Int) ≤ cm
  · go_enter Tryz.func18, Tryz.ntmps18
    go_wp2_with fail
    go_ret
    refine ⟨?_, K0.out⟩
    rw [HE.out, if_pos (.inr hc)] <;> rfl
  have hc' : decide ((i.parts.length : Int) ≤ cm) = false := decide_eq_false hc
  obtain ⟨m, rfl⟩ : ∃ m : Nat, cm = (m : Int) := ⟨cm.toNat, by omega⟩
  have hm : m < i.parts.length := by omega
  have hmi : (m : Int) < (i.parts.length : Int) := by omega
  obtain ⟨c, hpc⟩ : ∃ c, i.parts[m]? = some c := ⟨_, List.getElem?_eq_getElem hm⟩
  obtain ⟨ve, hve⟩ : ∃ ve, ves[m]? = some ve := ⟨_, List.getElem?_eq_getElem (by omega)⟩
  have HSO := Lib.hid (part_spans HNU.out hpc)
  have HE1 : Hid (initE i (j + 1) = if at_ % 16 ≠ 0 then 5 else if withinS c.data at_ 16 = false then 6 else if decide (at_ ≤ p.at_) = true then 13 else initK i c (m : Int) kd da sr ad pm) := Lib.hid (by rw [HE.out, if_neg (by omega), Int.toNat_natCast, hpc])
  obtain ⟨pb, po, rfl, hpl, hcs⟩ : ∃ b off, pp = some ⟨b, off, none⟩ ∧ b < w.heap.size ∧ (∀ (k : Nat) (x : PartV) (v : Value), i.parts[k]? = some x → ves[k]? = some v → _) := by
    rcases HPP.out with e | e
    · rw [e] at hpc; cases hpc
    · exact e
  have HPC := Lib.hid (fun k x v a b => hcs k x v a b)
  obtain ⟨q0, q1, q2, q3, q4, q5, q6, q7⟩ := hcs m c ve hpc hve
  have Q1 := Lib.hid q1
  have Q2 := Lib.hid q2
  have Q3 := Lib.hid q3
  have Q4 := Lib.hid q4
  have HPM := Lib.hid hpc
  clear hcs q0 q1 q2 q3 q4 q5 q6 q7 hpc HE HPP
  go_enter Tryz.func18, Tryz.ntmps18
  rcases Bool.eq_false_or_eq_true (at_ % 16 == 0) with a1 | a1
  rotate_left
  · have a2 : (at_ % 16 != 0) = true := by rw [bne, a1]; rfl
    go_wp2_with fail
    go_ret
    refine ⟨?_, K0.out⟩
    rw [HE1.out, if_pos (beq_eq_false_iff_ne.1 a1)] <;> rfl
  have a2 : (at_ % 16 != 0) = false := by rw [bne, a1]; rfl
  have AR := Lib.hid (show ¬ at_ % 16 ≠ 0 from fun h => h (beq_iff_eq.1 a1))
  have CW := Lib.hid (fun W => rwithin_any c.data at_ 16 HSO.out.2.1 ⟨u0, u1⟩ ⟨by decide, by decide⟩ W)
  unfold spanVal at CW
  obtain ⟨wd, hwd⟩ : ∃ wd, withinS c.data at_ 16 = wd := ⟨_, rfl⟩
  rw [hwd] at CW
  have HWD := Lib.hid hwd
  clear hwd
  go_wp2_with fail
  refine region_grows (Keep _) (by kernel_rfl) (by kernel_rfl) (Keep.refl _).drew ?_
  repeat (first
    | (apply text_pass (by rfl); go_simp)
    | (apply text_step (by rfl)
       · intro W hW
         have c1 := (B1.out.keep hW).cells
         have c2 := (B2.out.keep hW).cells
         have c3 := (K0.out.trans hW).cellOf Q3.out
         have c4 := (K0.out.trans hW).cellOf Q4.out
         go_simp
         first
           | exact ⟨rfl, hW⟩
           | (apply yes_enter; go_at_call 17; refine (CW.out _).mono ?_; rintro e w' ⟨rfl, hk⟩; first | (subst hk; exact ⟨rfl, hW⟩) | exact ⟨rfl, hW.trans hk⟩)
       go_simp))
  apply text_end
  intro W hW
  have KW := Lib.hid (K0.out.trans hW)
  have B1W := Lib.hid (B1.out.keep hW)
  have B2W := Lib.hid (B2.out.keep hW)
  have c1 := B1W.out.cells
  have c2 := B2W.out.cells
  clear hW n0 n1 n2 n3 n4 n5 n6 CW
  cases wd with
  | false =>
    go_wp2_with fail
    go_ret
    refine ⟨?_, KW.out⟩
    rw [HE1.out, if_neg AR.out, if_pos HWD.out] <;> rfl
  | true =>
  have WR := Lib.hid (show ¬ withinS c.data at_ 16 = false by rw [HWD.out]; decide)
  clear c1 c2
  go_wp2_with fail
  refine region_grows (Keep _) (by kernel_rfl) (by kernel_rfl) (Keep.refl _).drew ?_
  repeat (first
    | (apply text_pass (by rfl); go_simp)
    | (apply text_step (by rfl)
       · intro W hW
         have c1 := (B1W.out.keep hW).cells
         have c2 := (B2W.out.keep hW).cells
         have c3 := (KW.out.trans hW).cellOf P1.out
         go_simp
         first
           | exact ⟨rfl, hW⟩
       go_simp))
  apply text_end
  intro V hV
  have KV := Lib.hid (KW.out.trans hV)
  have B1V := Lib.hid (B1W.out.keep hV)
  have B2V := Lib.hid (B2W.out.keep hV)
  have c1 := B1V.out.cells
  have c2 := B2V.out.cells
  clear hV KW B1W B2W
  by_cases hv : at_ ≤ p.at_
  · have v1 : decide (at_ ≤ p.at_) = true := decide_eq_true hv
    go_wp2_with fail
    go_ret
    refine ⟨?_, KV.out⟩
    rw [HE1.out, if_neg AR.out, if_neg WR.out, if_pos v1] <;> rfl
  have v1 : decide (at_ ≤ p.at_) = false := decide_eq_false hv
  have VR : Hid (¬ decide (at_ ≤ p.at_) = true) := Lib.hid (by rw [v1]; decide)
  have HE2 : Hid (initE i (j + 1) = initK i c (m : Int) kd da sr ad pm) := Lib.hid (by rw [HE1.out, if_neg AR.out, if_neg WR.out, if_neg VR.out])
  by_cases k1 : kd = 1
  · subst k1
    have HK : Hid (initK i c (m : Int) 1 da sr ad pm = if sr ≠ 0 then 17 else if withinS (if da = true then c.data else c.code) ad 0 = false then 6 else if bits .andNot .u16 pm (mostP da) ≠ 0 then 3 else 0) := Lib.hid (by unfold initK; rw [if_pos rfl])
    have d1 := KV.out.cellOf Q1.out
    have d2 := KV.out.cellOf Q2.out
    cases da with
    | false =>
      have e2 := fun o => (B2V.out.alloc o).cells



      rcases Bool.eq_false_or_eq_true (sr == 0) with z | z
      rotate_left
      · have z2 : (sr != 0) = true := by rw [bne, z]; rfl
        go_wp2_with fail
        go_ret
        refine ⟨?_, KV.out.alloc _⟩
        rw [HE2.out, HK.out, if_pos (beq_eq_false_iff_ne.1 z)] <;> rfl
      have z2 : (sr != 0) = false := by rw [bne, z]; rfl
      have ZR := Lib.hid (show ¬ sr ≠ 0 from fun h => h (beq_iff_eq.1 z))
      have CW := Lib.hid (fun W => rwithin_any c.code ad 0 HSO.out.1 ⟨u2, u3⟩ ⟨by decide, by decide⟩ W)
      unfold spanVal at CW
      obtain ⟨wd, hwd⟩ : ∃ wd, withinS c.code ad 0 = wd := ⟨_, rfl⟩
      rw [hwd] at CW
      have HWD2 : Hid (withinS (if false = true then c.data else c.code) ad 0 = wd) := Lib.hid hwd
      clear hwd
      go_wp2_with fail
      refine (CW.out _).mono ?_
      rintro e D ⟨rfl, hD⟩
      have KD := Lib.hid ((KV.out.alloc _).trans hD)
      have B1D := Lib.hid ((B1V.out.alloc _).keep hD)
      have B2D := Lib.hid ((B2V.out.alloc _).keep hD)
      clear hD e2 c1 c2 d1 d2 CW
      cases wd with
      | false =>
        go_wp2_with fail
        go_ret
        refine ⟨?_, KD.out⟩
        rw [HE2.out, HK.out, if_neg ZR.out, if_pos HWD2.out] <;> rfl
      | true =>
      have WR2 : Hid (¬ withinS (if false = true then c.data else c.code) ad 0 = false) := Lib.hid (fun h => absurd ((show withinS (if false = true then c.data else c.code) ad 0 = true from HWD2.out).symm.trans h) (by decide))
      have CM := Lib.hid (fun W => rmost_any false W)
      obtain ⟨mv, hmv, hm2⟩ : ∃ mv, mostP false = mv ∧ (mv = 27 ∨ mv = 13) := ⟨_, rfl, by simp [mostP]⟩
      rw [hmv] at CM
      go_wp2_with fail
      refine region_grows (Keep _) (by kernel_rfl) (by kernel_rfl) (Keep.refl _).drew ?_
      repeat (first
        | (apply text_pass (by rfl); go_simp)
        | (apply text_step (by rfl)
           · intro W hW
             have e1 := (B1D.out.keep hW).cells
             have e2 := (B2D.out.keep hW).cells
             go_simp
             first
               | exact ⟨rfl, hW⟩
               | (apply yes_enter; go_at_call 42; refine (CM.out _).mono ?_; rintro e w' ⟨rfl, hk⟩; first | (subst hk; exact ⟨rfl, hW⟩) | exact ⟨rfl, hW.trans hk⟩)
           go_simp))
      apply text_end
      intro E hE
      have KE := Lib.hid (KD.out.trans hE)
      clear hE
      rcases Bool.eq_false_or_eq_true (bits .andNot .u16 pm mv != 0) with mz | mz
      · go_wp2_with fail
        go_ret
        refine ⟨?_, KE.out⟩
        rw [HE2.out, HK.out, if_neg ZR.out, if_neg WR2.out, hmv, if_pos (by simpa using mz)] <;> rfl
      · go_wp2_with fail
        go_ret
        refine ⟨?_, KE.out⟩
        rw [HE2.out, HK.out, if_neg ZR.out, if_neg WR2.out, hmv, if_neg (by simpa using mz)] <;> rfl
    | true =>
      have e2 := fun o => (B2V.out.alloc o).cells
      have d3 := fun o => (KV.out.alloc o).cellOf Q3.out
      have d4 := fun o => (KV.out.alloc o).cellOf Q4.out
      have e1 := fun o => (B1V.out.alloc o).cells
      rcases Bool.eq_false_or_eq_true (sr == 0) with z | z
      rotate_left
      · have z2 : (sr != 0) = true := by rw [bne, z]; rfl
        go_wp2_with fail
        go_ret
        refine ⟨?_, KV.out.alloc _⟩
        rw [HE2.out, HK.out, if_pos (beq_eq_false_iff_ne.1 z)] <;> rfl
      have z2 : (sr != 0) = false := by rw [bne, z]; rfl
      have ZR := Lib.hid (show ¬ sr ≠ 0 from fun h => h (beq_iff_eq.1 z))
      have CW := Lib.hid (fun W => rwithin_any c.data ad 0 HSO.out.2.1 ⟨u2, u3⟩ ⟨by decide, by decide⟩ W)
      unfold spanVal at CW
      obtain ⟨wd, hwd⟩ : ∃ wd, withinS c.data ad 0 = wd := ⟨_, rfl⟩
      rw [hwd] at CW
      have HWD2 : Hid (withinS (if true = true then c.data else c.code) ad 0 = wd) := Lib.hid hwd
      clear hwd
      go_wp2_with fail
      refine (CW.out _).mono ?_
      rintro e D ⟨rfl, hD⟩
      have KD := Lib.hid ((KV.out.alloc _).trans hD)
      have B1D := Lib.hid ((B1V.out.alloc _).keep hD)
      have B2D := Lib.hid ((B2V.out.alloc _).keep hD)
      clear hD e2 c1 c2 d1 d2 CW
      cases wd with
      | false =>
        go_wp2_with fail
        go_ret
        refine ⟨?_, KD.out⟩
        rw [HE2.out, HK.out, if_neg ZR.out, if_pos HWD2.out] <;> rfl
      | true =>
      have WR2 : Hid (¬ withinS (if true = true then c.data else c.code) ad 0 = false) := Lib.hid (fun h => absurd ((show withinS (if true = true then c.data else c.code) ad 0 = true from HWD2.out).symm.trans h) (by decide))
      have CM := Lib.hid (fun W => rmost_any true W)
      obtain ⟨mv, hmv, hm2⟩ : ∃ mv, mostP true = mv ∧ (mv = 27 ∨ mv = 13) := ⟨_, rfl, by simp [mostP]⟩
      rw [hmv] at CM
      go_wp2_with fail
      refine region_grows (Keep _) (by kernel_rfl) (by kernel_rfl) (Keep.refl _).drew ?_
      repeat (first
        | (apply text_pass (by rfl); go_simp)
        | (apply text_step (by rfl)
           · intro W hW
             have e1 := (B1D.out.keep hW).cells
             have e2 := (B2D.out.keep hW).cells
             go_simp
             first
               | exact ⟨rfl, hW⟩
               | (apply yes_enter; go_at_call 42; refine (CM.out _).mono ?_; rintro e w' ⟨rfl, hk⟩; first | (subst hk; exact ⟨rfl, hW⟩) | exact ⟨rfl, hW.trans hk⟩)
           go_simp))
      apply text_end
      intro E hE
      have KE := Lib.hid (KD.out.trans hE)
      clear hE
      rcases Bool.eq_false_or_eq_true (bits .andNot .u16 pm mv != 0) with mz | mz
      · go_wp2_with fail
        go_ret
        refine ⟨?_, KE.out⟩
        rw [HE2.out, HK.out, if_neg ZR.out, if_neg WR2.out, hmv, if_pos (by simpa using mz)] <;> rfl
      · go_wp2_with fail
        go_ret
        refine ⟨?_, KE.out⟩
        rw [HE2.out, HK.out, if_neg ZR.out, if_neg WR2.out, hmv, if_neg (by simpa using mz)] <;> rfl
  by_cases k2 : kd = 2
  · subst k2
    have HK : Hid (initK i c (m : Int) 2 da sr ad pm = if da = true ∨ pm ≠ 0 then 17 else if sr < 0 ∨ (i.parts.length : Int) ≤ sr then 6 else if (match i.parts[sr.toNat]? with
        | none => false
        | some f => amongI f.entries ad) = false then 12 else if sr = (m : Int) then 17 else 0) := Lib.hid (by unfold initK; rw [if_neg (by decide), if_pos rfl] <;> rfl)
    cases da with
    | true =>
      go_wp2_with fail
      go_ret
      refine ⟨?_, KV.out⟩
      first | (rw [HE2.out, HK.out, if_pos (.inl rfl)] <;> rfl) | (rw [HE2.out, HK.out, if_pos (.inl trivial)] <;> rfl)
    | false =>
    rcases Bool.eq_false_or_eq_true (pm == 0) with z | z
    rotate_left
    · have z2 : (pm != 0) = true := by rw [bne, z]; rfl
      go_wp2_with fail
      go_ret
      refine ⟨?_, KV.out⟩
      rw [HE2.out, HK.out, if_pos (.inr (beq_eq_false_iff_ne.1 z))] <;> rfl
    have z2 : (pm != 0) = false := by rw [bne, z]; rfl
    have pz : pm = 0 := beq_iff_eq.1 z
    have ZR := Lib.hid (show ¬ (false = true ∨ pm ≠ 0) by rintro (h | h); cases h; exact h pz)
    clear pz
    by_cases s0 : sr < 0
    · have s0' : decide (sr < 0) = true := decide_eq_true s0
      go_wp2_with fail
      go_ret
      refine ⟨?_, KV.out⟩
      rw [HE2.out, HK.out, if_neg ZR.out, if_pos (.inl s0)] <;> rfl
    have s0' : decide (sr < 0) = false := decide_eq_false s0
    by_cases s1 : (i.parts.length : Int) ≤ sr
    · have s1' : decide ((i.parts.length : Int) ≤ sr) = true := decide_eq_true s1
      go_wp2_with fail
      go_ret
      refine ⟨?_, KV.out⟩
      rw [HE2.out, HK.out, if_neg ZR.out, if_pos (.inr s1)] <;> rfl
    have s1' : decide ((i.parts.length : Int) ≤ sr) = false := decide_eq_false s1
    have SR := Lib.hid (show ¬ (sr < 0 ∨ (i.parts.length : Int) ≤ sr) by omega)
    obtain ⟨n, rfl⟩ : ∃ n : Nat, sr = (n : Int) := ⟨sr.toNat, by omega⟩
    have hni : (n : Int) < (i.parts.length : Int) := by omega
    obtain ⟨g, hg⟩ : ∃ g, i.parts[n]? = some g := ⟨_, List.getElem?_eq_getElem (by omega)⟩
    obtain ⟨vg, hvg⟩ : ∃ vg, ves[n]? = some vg := ⟨_, List.getElem?_eq_getElem (by omega)⟩
    have G7 := Lib.hid (HPC.out n g vg hg hvg).2.2.2.2.2.2.2
    have HNG : Hid (NumsAt w vg g.entries) := Lib.hid (HEN.out n g vg hg hvg)
    have HGN : Hid (g.entries.length ≤ 70) := Lib.hid (fen.out g (List.mem_of_getElem? hg))
    have CA := Lib.hid (fun W (hW : Keep w W) => ramong_any vg g.entries ad W (SlAt.keep HNG.out hW) (by have := HGN.out; omega))
    obtain ⟨am, ham⟩ : ∃ am, amongI g.entries ad = am := ⟨_, rfl⟩
    rw [ham] at CA
    have HAM : Hid ((match i.parts[((n : Int)).toNat]? with
        | none => false
        | some f => amongI f.entries ad) = am) := Lib.hid (by rw [Int.toNat_natCast, hg]; exact ham)
    clear ham hg hvg
    go_wp2_with fail
    refine region_grows (Keep _) (by kernel_rfl) (by kernel_rfl) (Keep.refl _).drew ?_
    repeat (first
      | (apply text_pass (by rfl); go_simp)
      | (apply text_step (by rfl)
         · intro W hW
           have e1 := (B1V.out.keep hW).cells
           have e2 := (B2V.out.keep hW).cells
           have e3 := (KV.out.trans hW).cellOf G7.out
           go_simp
           first
             | exact ⟨rfl, hW⟩
             | (apply yes_enter; go_at_call 19; refine (CA.out _ (KV.out.trans hW)).mono ?_; rintro e w' ⟨rfl, hk⟩; first | (subst hk; exact ⟨rfl, hW⟩) | exact ⟨rfl, hW.trans hk⟩)
         go_simp))
    apply text_end
    intro E hE
    have KE := Lib.hid (KV.out.trans hE)
    have e1 := (B1V.out.keep hE).cells
    have e2 := (B2V.out.keep hE).cells
    clear hE c1 c2
    cases am with
    | false =>
      go_wp2_with fail
      go_ret
      refine ⟨?_, KE.out⟩
      rw [HE2.out, HK.out, if_neg ZR.out, if_neg SR.out, if_pos HAM.out] <;> rfl
    | true =>
    have AM2 : Hid (¬ (match i.parts[((n : Int)).toNat]? with
        | none => false
        | some f => amongI f.entries ad) = false) := Lib.hid (fun h => absurd (HAM.out.symm.trans h) (by decide))
    by_cases en : n = m
    · subst en
      have q0 : ((n : Int) == (n : Int)) = true := by simp
      go_wp2_with fail
      go_ret
      refine ⟨?_, KE.out⟩
      first | (rw [HE2.out, HK.out, if_neg ZR.out, if_neg SR.out, if_neg AM2.out, if_pos rfl] <;> rfl) | (rw [HE2.out, HK.out, if_neg ZR.out, if_neg SR.out, if_neg AM2.out, if_pos trivial] <;> rfl)
    · have q0 : ((n : Int) == (m : Int)) = false := by simp; omega
      have q1 := Lib.hid (show ¬ (n : Int) = (m : Int) by omega)
      go_wp2_with fail
      go_ret
      refine ⟨?_, KE.out⟩
      rw [HE2.out, HK.out, if_neg ZR.out, if_neg SR.out, if_neg AM2.out, if_neg q1.out] <;> rfl
  by_cases k3 : kd = 3
  · subst k3
    have HK : Hid (initK i c (m : Int) 3 da sr ad pm = if da = true then 17 else if sr < 0 ∨ (i.shares.length : Int) ≤ sr ∨ sr0 sr i ad = true then 6 else if pm = 0 ∨ 3 < pm then 3 else 0) := Lib.hid (by unfold initK; rw [if_neg (by decide), if_neg (by decide), if_pos rfl]; rfl)
    cases da with
    | true =>
      go_wp2_with fail
      go_ret
      refine ⟨?_, KV.out⟩
      first | (rw [HE2.out, HK.out, if_pos rfl] <;> rfl) | (rw [HE2.out, HK.out, if_pos trivial] <;> rfl)
    | false =>
    have ZR := Lib.hid (show ¬ false = true by decide)
    by_cases s0 : sr < 0
    · have s0' : decide (sr < 0) = true := decide_eq_true s0
      go_wp2_with fail
      refine region_grows (Keep _) (by kernel_rfl) (by kernel_rfl) (Keep.refl _).drew ?_
      repeat (first
        | (apply text_pass (by rfl); go_simp)
        | (apply text_step (by rfl)
           · intro W hW
             have e1 := (B1V.out.keep hW).cells
             have e2 := (B2V.out.keep hW).cells
             go_simp
             first
               | exact ⟨rfl, hW⟩
           go_simp))
      apply text_end
      intro E hE
      have KE := Lib.hid (KV.out.trans hE)
      have e1 := (B1V.out.keep hE).cells
      have e2 := (B2V.out.keep hE).cells
      clear hE c1 c2
      go_wp2_with fail
      go_ret
      refine ⟨?_, KE.out⟩
      rw [HE2.out, HK.out, if_neg ZR.out, if_pos (.inl s0)] <;> rfl
    have s0' : decide (sr < 0) = false := decide_eq_false s0
    by_cases s1 : (i.shares.length : Int) ≤ sr
    · have s1' : decide ((i.shares.length : Int) ≤ sr) = true := decide_eq_true s1
      go_wp2_with fail
      refine region_grows (Keep _) (by kernel_rfl) (by kernel_rfl) (Keep.refl _).drew ?_
      repeat (first
        | (apply text_pass (by rfl); go_simp)
        | (apply text_step (by rfl)
           · intro W hW
             have e1 := (B1V.out.keep hW).cells
             have e2 := (B2V.out.keep hW).cells
             go_simp
             first
               | exact ⟨rfl, hW⟩
           go_simp))
      apply text_end
      intro E hE
      have KE := Lib.hid (KV.out.trans hE)
      have e1 := (B1V.out.keep hE).cells
      have e2 := (B2V.out.keep hE).cells
      clear hE c1 c2
      go_wp2_with fail
      go_ret
      refine ⟨?_, KE.out⟩
      rw [HE2.out, HK.out, if_neg ZR.out, if_pos (.inr (.inl s1))] <;> rfl
    have s1' : decide ((i.shares.length : Int) ≤ sr) = false := decide_eq_false s1
    obtain ⟨n, rfl⟩ : ∃ n : Nat, sr = (n : Int) := ⟨sr.toNat, by omega⟩
    have hni : (n : Int) < (i.shares.length : Int) := by omega
    have hnn : n < i.shares.length := by omega
    have hnl : ¬ i.shares.length ≤ n := by omega
    have hnd : decide (i.shares.length ≤ n) = false := decide_eq_false hnl
    obtain ⟨g, hg⟩ : ∃ g, i.shares[n]? = some g := ⟨_, List.getElem?_eq_getElem (by omega)⟩
    obtain ⟨sb, so, rfl, hsl, hss⟩ : ∃ b off, sp = some ⟨b, off, none⟩ ∧ b < w.heap.size ∧ (∀ (k : Nat) (x : SpanV), i.shares[k]? = some x → _) := by
      rcases HSP.out with e | e
      · rw [e] at hg; cases hg
      · exact e
    have G0 := Lib.hid (hss n g hg).1
    have HG := Lib.hid hg
    clear hss hg HSP
    rcases Bool.eq_false_or_eq_true (g.at_ != ad) with y | y
    · have Y : Hid (sr0 (n : Int) i ad = true) := Lib.hid (by unfold sr0; rw [Int.toNat_natCast, HG.out]; simpa using y)
      go_wp2_with fail
      refine region_grows (Keep _) (by kernel_rfl) (by kernel_rfl) (Keep.refl _).drew ?_
      repeat (first
        | (apply text_pass (by rfl); go_simp)
        | (apply text_step (by rfl)
           · intro W hW
             have e1 := (B1V.out.keep hW).cells
             have e2 := (B2V.out.keep hW).cells
             have e3 := (KV.out.trans hW).cellOf G0.out
             go_simp
             first
               | exact ⟨rfl, hW⟩
           go_simp))
      apply text_end
      intro E hE
      have KE := Lib.hid (KV.out.trans hE)
      have e1 := (B1V.out.keep hE).cells
      have e2 := (B2V.out.keep hE).cells
      clear hE c1 c2
      go_wp2_with fail
      go_ret
      refine ⟨?_, KE.out⟩
      rw [HE2.out, HK.out, if_neg ZR.out, if_pos (.inr (.inr Y.out))] <;> rfl
    have Y : Hid (¬ ((n : Int) < 0 ∨ (i.shares.length : Int) ≤ (n : Int) ∨ sr0 (n : Int) i ad = true)) := Lib.hid (by
      rintro (h | h | h)
      · omega
      · omega
      · unfold sr0 at h; rw [Int.toNat_natCast, HG.out] at h; simp at h y; exact h y)
    go_wp2_with fail
    refine region_grows (Keep _) (by kernel_rfl) (by kernel_rfl) (Keep.refl _).drew ?_
    repeat (first
      | (apply text_pass (by rfl); go_simp)
      | (apply text_step (by rfl)
         · intro W hW
           have e1 := (B1V.out.keep hW).cells
           have e2 := (B2V.out.keep hW).cells
           have e3 := (KV.out.trans hW).cellOf G0.out
           go_simp
           first
             | exact ⟨rfl, hW⟩
         go_simp))
    apply text_end
    intro E hE
    have KE := Lib.hid (KV.out.trans hE)
    have e1 := (B1V.out.keep hE).cells
    have e2 := (B2V.out.keep hE).cells
    clear hE c1 c2
    by_cases p0 : pm = 0
    · have p0' : (pm == 0) = true := by rw [p0]; rfl
      go_wp2_with fail
      go_ret
      refine ⟨?_, KE.out⟩
      rw [HE2.out, HK.out, if_neg ZR.out, if_neg Y.out, if_pos (.inl p0)] <;> rfl
    have p0' : (pm == 0) = false := beq_eq_false_iff_ne.2 p0
    by_cases p1 : 3 < pm
    · have p1' : decide (3 < pm) = true := decide_eq_true p1
      go_wp2_with fail
      go_ret
      refine ⟨?_, KE.out⟩
      rw [HE2.out, HK.out, if_neg ZR.out, if_neg Y.out, if_pos (.inr p1)] <;> rfl
    have p1' : decide (3 < pm) = false := decide_eq_false p1
    have PR := Lib.hid (show ¬ (pm = 0 ∨ 3 < pm) by omega)
    go_wp2_with fail
    go_ret
    refine ⟨?_, KE.out⟩
    rw [HE2.out, HK.out, if_neg ZR.out, if_neg Y.out, if_neg PR.out] <;> rfl
  have k1' : (kd == 1) = false := beq_eq_false_iff_ne.2 k1
  have k2' : (kd == 2) = false := beq_eq_false_iff_ne.2 k2
  have k3' : (kd == 3) = false := beq_eq_false_iff_ne.2 k3
  have HK : Hid (initK i c (m : Int) kd da sr ad pm = 17) := Lib.hid (by unfold initK; rw [if_neg k1, if_neg k2, if_neg k3])
  go_wp2_with fail
  go_ret
  refine ⟨?_, KV.out⟩
  rw [HE2.out, HK.out] <;> rfl
theorem rinit_any (i : ImgV) (vp vs vi vb : Value) (ves : List Value) (k : Nat) (w : World) (h : ImgAt w i vp vs vi vb ves) (hf : ImgFew i) (hn : ImgNum i) (hk : k < i.inits.length) :
    Calls Tryz.prog 18 #[imgVal i vp vs vi vb, .int .i64 (k : Int)] w fun e w' => e = .returned (.int .i64 (initE i k)) ∧ Keep w w' := by
  have hs := List.getElem?_eq_getElem hk
  match k, hk, hs with
  | 0, hk, hs => exact rinit_0 i vp vs vi vb ves _ hs w h hf hn
  | j + 1, hk, hs =>
    have := rinit_j i vp vs vi vb ves j _ _ hs (List.getElem?_eq_getElem (by omega)) w h hf hn
    simpa using this
end Go.Proofs.YtmcbeclkocjlkaaGreatDoor
