/- hasplaw18's ImgCut, over what the program's img answers; by gen/img6.py. -/
import Derived.Test.YtmcbeclkocjlkaaGreatDoorGImgF
import Derived.Test.YtmcbeclkocjlkaaGreatDoorImgC
namespace Go.Proofs.YtmcbeclkocjlkaaGreatDoor
set_option linter.unusedVariables false
set_option linter.unusedSimpArgs false
open Go Go.RowKit
set_option maxHeartbeats 4000000 in
set_option maxRecDepth 100000 in
theorem imgCut_any {Pre : World → Prop} (hP : OPreOk Pre) (hE : PImgEncode Pre) (hD : PImgDecode Pre) (hK : ∀ w, Pre w → Calls Tryz.prog 4 #[] w fun e w' => e = .returned (.bool true) ∧ Keep w w')
    (i : ImgV) (vp vs vi vb : Value) (ves : List Value) (c m : Nat) (hc : c < 65536) (hm : m < 256) (w : World) (h : ImgAt w i vp vs vi vb ves) (ho : ImgNum i) (m1 : i.parts.length ≤ maxLen) (m2 : i.shares.length ≤ maxLen) (m3 : i.inits.length ≤ maxLen) (m4 : i.bytes.length ≤ maxLen) (m5 : ∀ p ∈ i.parts, p.entries.length ≤ maxLen) (hp : Pre w) :
    Calls Tryz.prog 3 #[imgVal i vp vs vi vb, .int .u16 (c : Int), .int .u8 (m : Int)] w fun e w' => e = .returned (.bool true) ∧ Keep w w' := by
  have HO := Lib.hid h
  have HN := Lib.hid ho
  have HP := Lib.hid hp
  have HH := Lib.hid hP
  have HE := Lib.hid hE
  have HD := Lib.hid hD
  have HM := Lib.hid (And.intro (And.intro m1 m2) (And.intro m3 (And.intro m4 m5)))
  obtain ⟨pp, pcap, rfl, _⟩ := h.parts
  obtain ⟨sp, scap, rfl, _⟩ := h.shares
  obtain ⟨ip, icap, rfl, _⟩ := h.inits
  obtain ⟨bp, bcap, rfl, _⟩ := h.bytes
  unfold imgVal
  have K0 : Hid (Keep w (w.alloc (.cells #[.int .u32 i.size, .slice pp i.parts.length pcap, .slice sp i.shares.length scap, .slice ip i.inits.length icap, .int .i64 i.start, .int .u32 i.addr, .slice bp i.bytes.length bcap] 28))) := Lib.hid ((Keep.refl _).alloc _)
  have B0 : Hid (Box (w.alloc (.cells #[.int .u32 i.size, .slice pp i.parts.length pcap, .slice sp i.shares.length scap, .slice ip i.inits.length icap, .int .i64 i.start, .int .u32 i.addr, .slice bp i.bytes.length bcap] 28)) w.heap.size #[.int .u32 i.size, .slice pp i.parts.length pcap, .slice sp i.shares.length scap, .slice ip i.inits.length icap, .int .i64 i.start, .int .u32 i.addr, .slice bp i.bytes.length bcap]) := Lib.hid (Box.new _ _ _)
  have CK := Lib.hid (hK _ (hP.keep hp K0.out))
  clear h ho hp hP hE hD hK m1 m2 m3 m4 m5
  go_enter Tryz.func3, Tryz.ntmps3
  go_wp2_with fail
  refine CK.out.mono ?_
  rintro e w1 ⟨rfl, hk1⟩
  have K1 := Lib.hid (K0.out.trans hk1)
  have B1 := B0.out.keep hk1
  have HB1 := Lib.hid B1
  have c1 := B1.cells
  have CF := Lib.hid (ifew_any i _ _ _ _ _ w1 (HO.out.keep K1.out) HM.out.1.1 HM.out.1.2 HM.out.2.1 HM.out.2.2.1 HM.out.2.2.2)
  unfold imgVal at CF
  clear hk1 CK B1
  go_wp2_with fail
  refine CF.out.mono ?_
  rintro e w2 ⟨b, rfl, hb, hk2⟩
  have K2 := Lib.hid (K1.out.trans hk2)
  have B2 := HB1.out.keep hk2
  have HB2 := Lib.hid B2
  have c2 := B2.cells
  have HBF := Lib.hid hb
  clear hk2 CF B2 c1 hb
  cases b with
  | false =>
    go_wp2_with fail
    go_ret
    exact ⟨rfl, K2.out⟩
  | true =>
    have FF := Lib.hid (HBF.out rfl)
    have CO := Lib.hid (iof_any i _ _ _ _ _ w2 (HO.out.keep K2.out) FF.out.mid)
    unfold imgVal at CO
    go_wp2_with fail
    refine CO.out.mono ?_
    rintro e w3 ⟨hk3, v1, v2, v3, rfl, ho3⟩
    have K3 := Lib.hid (K2.out.trans hk3)
    have HB3 := Lib.hid (HB2.out.keep hk3)
    have CC := Lib.hid (chkimg_any i _ _ _ _ _ w3 ho3 FF.out HN.out)
    unfold imgVal wrVal at CC
    clear hk3 CO c2 ho3
    obtain ⟨X, hX⟩ : ∃ X, imgW i = X := ⟨_, rfl⟩
    rw [hX] at CC
    have HX := Lib.hid hX
    clear hX
    obtain ⟨xp, xa, xe⟩ := X
    have wf := wfld2 xp xa xe
    dsimp only at CC
    rcases Bool.eq_false_or_eq_true (xe == 0) with z | z
    rotate_left
    · have z2 : (xe != 0) = true := by rw [bne, z]; rfl
      go_wp2_with fail
      refine CC.out.mono ?_
      rintro e w4 ⟨rfl, hk4⟩
      have K4 := Lib.hid (K3.out.trans hk4)
      clear hk4
      go_wp2_with fail
      go_ret
      exact ⟨rfl, K4.out⟩
    have z2 : (xe != 0) = false := by rw [bne, z]; rfl
    have OK0 : Hid ((imgW i).2.2 = 0) := Lib.hid (by rw [HX.out]; exact beq_iff_eq.1 z)
    have OKO := Lib.hid ((imgW_may OK0.out).ok HN.out)
    obtain ⟨lt256, lmax, lmin⟩ := encI_lt HN.out OKO.out FF.out
    have L256 := Lib.hid lt256
    clear lt256
    go_wp2_with fail
    refine CC.out.mono ?_
    rintro e w4 ⟨rfl, hk4⟩
    have K4 := Lib.hid (K3.out.trans hk4)
    have HB4 := Lib.hid (HB3.out.keep hk4)
    have c4 := HB4.out.cells
    have CE := Lib.hid (HE.out i _ _ _ _ _ w4 (HO.out.keep K4.out) HN.out FF.out (HH.out.keep HP.out K4.out))
    unfold imgVal at CE
    clear hk4 CC
    go_wp2_with fail
    refine CE.out.mono ?_
    rintro e w5 ⟨hk5, p, n, cap, u, rfl, hu, hs⟩
    have K5 := Lib.hid (K4.out.trans hk5)
    obtain rfl := hu.good OK0.out
    obtain ⟨hn, hsl⟩ := hs OK0.out
    have SL := Lib.hid hsl
    obtain ⟨_, _, e0, hcap, hmax, hcl⟩ := hsl
    simp only [Value.slice.injEq, true_and] at e0
    obtain ⟨rfl, rfl⟩ := e0
    have hne : ¬ (encI i).map byteV = [] := fun e => by
      have := congrArg List.length e
      simp at this
      rw [this] at lmin
      simp at lmin
    rcases hcl with hnil | ⟨gb, goff, rfl, hgb, hgc⟩
    · exact absurd hnil hne
    have HGC := Lib.hid hgc
    clear hgc hne
    have HLN := Lib.hid hn
    have n0 : (0 : Int) < (n : Int) := by omega
    have nz : ((n : Int) == 0) = false := beq_eq_false_iff_ne.2 (by omega)
    have nmax : n ≤ 20000 := by omega
    obtain ⟨r, hr⟩ : ∃ r, c % n = r := ⟨_, rfl⟩
    have rlt : r < n := by rw [← hr]; exact Nat.mod_lt _ (by omega)
    have hri : (c : Int) % (n : Int) = (r : Int) := by rw [← hr]; simp
    have ES : Hid (SlAt w5 (.slice (some ⟨gb, goff, none⟩) r cap) ((encI i).take r).length (((encI i).take r).map byteV)) := Lib.hid (by
      have h := SL.out.take (m := r) (by omega)
      rw [← List.map_take] at h
      rw [show ((encI i).take r).length = r by rw [List.length_take]; omega]
      exact h)
    have CD := Lib.hid (HD.out _ ((encI i).take r) w5 ES.out (fun x hx => L256.out x (List.mem_of_mem_take hx)) (by rw [List.length_take]; omega) (HH.out.keep HP.out K5.out))
    have CUT := Lib.hid (img_cut OKO.out (n := r) (by omega))
    clear hk5 CE c4 hu hs hn hr
    as_aux_lemma =>
      go_wp2_with fail
      refine CD.out.mono ?_
      rintro e w6 ⟨hk6, o1, a1, a2, a3, a4, es1, u1, rfl, ho1, hu1, _⟩
      have K6 := Lib.hid (K5.out.trans hk6)
      have K56 := Lib.hid hk6
      obtain ⟨q1, rfl⟩ : ∃ q, u1 = faultP q := hu1.bad (decIW_nz CUT.out)
      obtain ⟨e1, d1, rfl, _⟩ := ho1.parts
      obtain ⟨e2, d2, rfl, _⟩ := ho1.shares
      obtain ⟨e3, d3, rfl, _⟩ := ho1.inits
      obtain ⟨e4, d4, rfl, _⟩ := ho1.bytes
      unfold imgVal faultP
      clear hk6 CD ho1 hu1 CUT
      as_aux_lemma =>
        obtain ⟨ki, hki, kz0, kz1, kz2⟩ := oinfo_parts infoU8
        have hsz6 : w5.heap.size ≤ w6.heap.size := K56.out.size
        obtain ⟨OB, hOB⟩ : ∃ OB : Nat, OB = w6.heap.size + 1 := ⟨_, rfl⟩
        go_wp2_with (at_builtin; refine wpList_append_own _ rfl _ _ 26 rfl (w6.heap.size + 1) 5 ki _ 1 1 Tryz.underlying26 hki kz0 kz1 kz2 rfl (by decide) _ 0 [] rfl ?o1 ⟨gb, goff, none⟩ n cap ((encI i).map byteV) rfl ?o2 ?o3 ?o4 ?o5 ?o6 ?o7 ?_)
        case o1 => exact own_none _ _ _ _ _ (by simp) (by simp)
        case o2 => rw [List.length_map, Nat.mul_one]; exact HLN.out.symm
        case o3 =>
          intro j u hj
          rw [Addr.add_lit]
          exact (((Keep.refl _).alloc _).alloc _ : Keep w6 _).cellOf (K56.out.cellOf (HGC.out j u hj))
        case o4 =>
          intro u hu
          obtain ⟨y, _, rfl⟩ := List.mem_map.1 hu
          rfl
        case o5 => unfold maxLen; omega
        case o6 => omega
        case o7 => first | (simp; done) | (simp; omega)
        intro v7 w7 hown7 hgrow7 _
        have KW7 := Lib.hid (grown_keep (((Keep.refl w6).alloc (.cells #[.int .u32 o1.size, .slice e1 o1.parts.length d1, .slice e2 o1.shares.length d2, .slice e3 o1.inits.length d3, .int .i64 o1.start, .int .u32 o1.addr, .slice e4 o1.bytes.length d4] 28)).alloc (.cells #[] 5)) hgrow7 (fun c hc => by
          simp only [Value.ownBlock, Option.some.injEq] at hc
          omega))
        have OW7 := Lib.hid hown7
        obtain ⟨p7, c7, hv7, hl7, hm7, _⟩ := owns_cells hown7 (by unfold maxLen; omega)
        subst hv7
        have hs7 : w6.heap.size + 1 ≤ w7.heap.size := by
          have := KW7.out.size
          have h := hgrow7.size
          simp at h
          omega
        clear hgrow7 hown7 hl7 hm7
        as_aux_lemma =>
          go_wp2_with (at_builtin; refine wpList_append_own _ rfl _ _ 26 rfl (w6.heap.size + 1) 5 ki _ 1 1 Tryz.underlying26 hki kz0 kz1 kz2 rfl (by decide) _ n ((encI i).map byteV) rfl (OW7.out.alloc _) ⟨w7.heap.size, 0, none⟩ 1 1 [byteV m] rfl rfl ?r1 ?r2 ?r3 ?r4 ?r5 ?_)
          case r1 =>
            intro j u hj
            match j, hj with
            | 0, hj => simp at hj; subst hj; simp [Addr.add, byteV]
            | (j + 1), hj => simp at hj
          case r2 =>
            intro u hu
            simp only [List.mem_cons, List.not_mem_nil, or_false] at hu
            subst hu; rfl
          case r3 => unfold maxLen; omega
          case r4 => omega
          case r5 => first | (simp; done) | (simp; omega)
          intro v8 w8 hown8 hgrow8 _
          have KW8 := Lib.hid (grown_keep (KW7.out.alloc (.cells #[.int .u8 (m : Int)] 5)) hgrow8 (fun c hc => by
            have := (World.ownsRow.lt OW7.out c hc).1
            omega))
          have K8 := Lib.hid (K6.out.trans KW8.out)
          have hmm : (encI i ++ [m]).map byteV = (encI i).map byteV ++ [byteV m] := by simp
          have ES8 : Hid (SlAt w8 v8 (encI i ++ [m]).length ((encI i ++ [m]).map byteV)) := Lib.hid (by
            rw [hmm]
            have hl : (encI i ++ [m]).length = n + 1 := by rw [List.length_append, ← HLN.out]; simp
            rw [hl]
            obtain ⟨p8, c8, e, h1, h2, h3⟩ := owns_cells hown8 (by unfold maxLen; omega)
            refine ⟨p8, c8, e, h1, h2, ?_⟩
            rcases h3 with h3 | ⟨b8, h3, _, h4, h5⟩
            · exact .inl h3
            · exact .inr ⟨b8, 0, h3, h4, h5⟩)
          have CD8 := Lib.hid (HD.out _ (encI i ++ [m]) w8 ES8.out (fun x hx => by
            rcases List.mem_append.1 hx with h | h
            · exact L256.out x h
            · simp only [List.mem_cons, List.not_mem_nil, or_false] at h; subst h; exact hm) (by rw [List.length_append, ← HLN.out]; simp; omega) (HH.out.keep HP.out K8.out))
          have MORE := Lib.hid (img_more OKO.out m)
          clear hgrow8 hown8 hmm
          as_aux_lemma =>
            go_wp2_with fail
            refine CD8.out.mono ?_
            rintro e w9 ⟨hk9, o9, a1, a2, a3, a4, es9, u9, rfl, ho9, hu9, _⟩
            have K9 := Lib.hid (K8.out.trans hk9)
            obtain ⟨q9, rfl⟩ : ∃ q, u9 = faultP q := hu9.bad (decIW_nz MORE.out)
            obtain ⟨y1, z1, rfl, _⟩ := ho9.parts
            obtain ⟨y2, z2', rfl, _⟩ := ho9.shares
            obtain ⟨y3, z3, rfl, _⟩ := ho9.inits
            obtain ⟨y4, z4, rfl, _⟩ := ho9.bytes
            unfold imgVal faultP
            clear hk9 CD8 ho9 hu9 MORE
            go_wp2_with fail
            go_ret
            exact ⟨rfl, K9.out.alloc _⟩
end Go.Proofs.YtmcbeclkocjlkaaGreatDoor
