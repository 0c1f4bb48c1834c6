/- The linker's place: its loop over the parts. -/
import Derived.Test.YtbmjnfnekmeegaaGreatDoorGLkD

namespace Go.Proofs.YtbmjnfnekmeegaaGreatDoor
set_option linter.unusedVariables false
set_option linter.unusedSimpArgs false
open Go Go.RowKit
set_option maxHeartbeats 16000000 in
set_option maxRecDepth 100000 in
theorem lkplace_any (b : Nat) (m : ManV) (vc vi vs vg : Value) (l : List ObjV) (vl : Value) (qs : List V4) (is st ad bs : Value) (size : Int) (hsz : N32 size) (hm : ManMay m) (hf : ObjsFew l) (ha : LkAll m l qs) (PH : PlH m l) (w0 w : World) (hM : ManAt w0 m vc vi vs vg) (hO : ObjsAt w0 vl l qs) (hk0 : Keep w0 w) (hb0 : w0.heap.size ≤ b) (hbx : Box w b #[vc, vi, vs, vg, .string m.start.comp, .string m.start.from_, .string m.start.name, vl, .int .u32 size, .slice none 0 0, .slice none 0 0, is, st, ad, bs]) :
    Calls Tryz.prog 28 #[.pointer (some ⟨b, 0, none⟩)] w fun e w' => ∃ u psv ssv ves, e = .returned u ∧ LErr w' u (errO sizeT (lwant m l) (roomE size (lwant m l))) ∧ PlD b m l (fun a c => #[vc, vi, vs, vg, .string m.start.comp, .string m.start.from_, .string m.start.name, vl, .int .u32 size, a, c, is, st, ad, bs]) w w' psv ssv ves := by
  have hblt := hbx.lt
  obtain ⟨W0, hW0⟩ : ∃ W0, W0 = w.alloc (.cells #[.int .u32 16] 31) := ⟨_, rfl⟩
  have K0 : Hid (Keep w W0) := Lib.hid (by rw [hW0]; exact (Keep.refl _).alloc _)
  have BN0 : Hid (Box W0 w.heap.size #[.int .u32 16]) := Lib.hid (by rw [hW0]; exact Box.new _ _ _)
  have S0 : Hid (RS w b (#[vc, vi, vs, vg, .string m.start.comp, .string m.start.from_, .string m.start.name, vl, .int .u32 size, .slice none 0 0, .slice none 0 0, is, st, ad, bs]) (.slice none 0 0) [] [] W0) := Lib.hid (RS.nil (K0.out.but _) (hbx.keep K0.out))
  have cb := (hbx.alloc (.cells #[.int .u32 16] 31)).cells
  have HM := Lib.hid hM
  have HO := Lib.hid hO
  have HK0 := Lib.hid hk0
  have HA := Lib.hid ha
  have HPH := Lib.hid PH
  have HF := Lib.hid hf
  have HMM := Lib.hid hm
  obtain ⟨pz, capz, hvz, hcapz, hcz⟩ := hM.compsAt
  have HCZ := Lib.hid hcz
  obtain ⟨pq, capq, hvq, hcapq, hcq⟩ := hM.shrsAt
  have HCQ := Lib.hid hcq
  have HSZ := Lib.hid hsz
  rw [hvz] at cb
  clear hM hO hk0 ha hf hm hcz hcq hbx PH hsz
  go_enter Tryz.func28, Tryz.ntmps28
  go_wp2_with fail
  rw [← hW0]
  clear hW0 cb
  go_loopw [20] (fun i wr => ∃ (k : Nat) (psv : Value) (ves : List Value), k ≤ m.comps.length ∧ i = .int .i64 (k : Int) ∧ RS w b (#[vc, vi, vs, vg, .string m.start.comp, .string m.start.from_, .string m.start.name, vl, .int .u32 size, psv, .slice none 0 0, is, st, ad, bs]) psv ((lparts l m.comps 16).take k) ves wr ∧ Box wr w.heap.size #[.int .u32 (lend l (m.comps.take k) 16)]) (fun i _ => m.comps.length - (intOf i).toNat)
  case atStart => exact ⟨0, .slice none 0 0, [], Nat.zero_le _, rfl, S0.out, BN0.out⟩
  case round =>
    obtain ⟨k, psv, ves, hk, rfl, hS, hN⟩ := hrel
    obtain ⟨wq, hwq⟩ : ∃ x, x = wr := ⟨_, rfl⟩
    subst hwq
    by_cases hlt : k < m.comps.length
    · have HS := Lib.hid hS
      have HN := Lib.hid hN
      clear hS hN
      obtain ⟨cc, hcc⟩ : ∃ cc, m.comps[k]? = some cc := ⟨_, List.getElem?_eq_getElem hlt⟩
      obtain ⟨ko, o, q, HL, hfo⟩ := HA.out k cc hcc
      have Kw : Hid (Keep w0 wq) := Lib.hid (HK0.out.butNew HS.out.but (fun x hx => by rw [hx]; exact hb0))
      have HOA := Lib.hid (HO.out.at_ ko o q HL.obj HL.val)
      obtain ⟨pa, ca, pb, cb', pd, cd, pe, ce, rfl⟩ := HOA.out.sls
      have ho : o ∈ l := List.mem_of_getElem? HL.obj
      obtain ⟨n1, hn1⟩ : ∃ n, n = o.code.length := ⟨_, rfl⟩
      obtain ⟨n2, hn2⟩ : ∃ n, n = o.data.length := ⟨_, rfl⟩
      obtain ⟨n3, hn3⟩ : ∃ n, n = o.syms.length := ⟨_, rfl⟩
      obtain ⟨n4, hn4⟩ : ∃ n, n = o.rels.length := ⟨_, rfl⟩
      have CO : Hid (∀ W psv' , LkAt W b m vc vi vs vg l vl qs (.int .u32 size) psv' (.slice none 0 0) is st ad bs → Calls Tryz.prog 67 #[.pointer (some ⟨b, 0, none⟩), .int .i64 (k : Int)] W fun e w' => e = .returned (.agg #[.string o.name, .slice pa n1 ca, .slice pb n2 cb', .slice pd n3 cd, .slice pe n4 ce]) ∧ Keep W w') :=
        Lib.hid (fun W psv' hW => by rw [hn1, hn2, hn3, hn4]; exact lkobject_any b m vc vi vs vg l vl qs (.int .u32 size) psv' (.slice none 0 0) is st ad bs k cc ko o _ HL W hW (by have := HF.out.len; omega))
      have CE : Hid (∀ W, Keep w0 W → Calls Tryz.prog 73 #[.agg #[.string o.name, .slice pa n1 ca, .slice pb n2 cb', .slice pd n3 cd, .slice pe n4 ce]] W fun e w' => ∃ v, e = .returned v ∧ RowOf W.heap.size w'.heap.size w' v (placesL o).length ((placesL o).map (Value.int .u32)) ∧ Keep W w') :=
        Lib.hid (fun W hW => by rw [hn1, hn2, hn3, hn4]; exact lkexports_any o _ _ _ _ W (HOA.out.keep hW) ((HF.out.num o ho).syms) (by have := (HF.out.few o ho).syms; omega))
      have hki : (k : Int) < (m.comps.length : Int) := by omega
      obtain ⟨b1, off1, rfl, hb1, hx1⟩ := HCZ.out.resolve_left (fun e => by rw [e] at hcc; simp at hcc)
      obtain ⟨d0, d1⟩ := hx1 k cc hcc
      replace d0 := Kw.out.cellOf d0
      replace d1 := Kw.out.cellOf d1
      have hcm : cc ∈ m.comps := List.mem_of_getElem? hcc
      obtain ⟨cs0, cs1⟩ := HPH.out.comp cc hcm
      have hoo : objOf l cc.name = o := objOf_find hfo
      obtain ⟨e0, e1, e2, e3⟩ := HPH.out.obj cc hcm
      rw [hoo] at e0 e1 e2 e3
      have HLP := Lib.hid (lpart_of HPH.out hcm (lend l (m.comps.take k) 16) hoo)
      have HSN := Lib.hid (lparts_snoc (l := l) hcc)
      have HLN := Lib.hid (lend_next (l := l) hcc)
      obtain ⟨bd1, bd2⟩ := lend_k HPH.out k
      have hcns := (HMM.out.compN cc hcm).1
      rw [← hn1] at HLP e1
      rw [← hn2] at HLP e2 e3
      obtain ⟨nx, hnx⟩ : ∃ nx, nx = lend l (m.comps.take k) 16 := ⟨_, rfl⟩
      obtain ⟨fc, hfc⟩ : ∃ fc, fc = fillN n1 := ⟨_, rfl⟩
      obtain ⟨f0, f1⟩ := fillN_le e1
      rw [← hnx] at HN HLP HSN HLN bd1 bd2
      rw [← hfc] at HLP f0 f1
      obtain ⟨cn, hcn⟩ : ∃ cn, cn = cc.name := ⟨_, rfl⟩
      obtain ⟨cs, hcs⟩ : ∃ cs, cs = cc.stack := ⟨_, rfl⟩
      rw [← hcn] at d0 HLP hcns
      rw [← hcs] at d1 cs0 cs1 HLP
      have CFL : Hid (∀ W, Calls Tryz.prog 72 #[.slice pa n1 ca] W fun e w' => e = .returned (.int .u32 fc) ∧ W = w') := Lib.hid (fun W => by rw [hfc]; exact lkfilled_any pa n1 ca (by omega) W)
      have CCL : Hid (∀ W, Calls Tryz.prog 71 #[.string cn] W fun e w' => e = .returned (.string cn) ∧ Keep W w') := Lib.hid (fun W => lkclone_any cn (by omega) W)
      have wrn : IntKind.u32.wrap (n2 : Int) = (n2 : Int) := by rw [IntKind.wrap_u32]; omega
      have n20 : (0 : Int) ≤ (n2 : Int) := by omega
      have n21 : (n2 : Int) ≤ 500 := by omega
      have HKK := Lib.hid (And.intro hcc (And.intro hcm hoo))
      obtain ⟨Wa, hWa⟩ : ∃ Wa, Wa = wq.alloc (.cells #[.string cn, .int .u32 cs] 86) := ⟨_, rfl⟩
      have KWa : Hid (Keep wq Wa) := Lib.hid (by rw [hWa]; exact (Keep.refl _).alloc _)
      have B6a : Hid (Box Wa wq.heap.size #[.string cn, .int .u32 cs]) := Lib.hid (by rw [hWa]; exact Box.new _ _ _)
      have LKa : Hid (LkAt Wa b m vc vi vs vg l vl qs (.int .u32 size) psv (.slice none 0 0) is st ad bs) := Lib.hid ⟨HS.out.box.keep KWa.out, HM.out.keep (Kw.out.trans KWa.out), HO.out.keep (Kw.out.trans KWa.out)⟩
      have HLT := Lib.hid hlt
      have HHK := Lib.hid hk
      clear hx1 e0 e1 e2 e3 hn1 hn2 hn3 hn4 hnx hfc hcn hcs hoo hcm ho HL hfo hcc hcns hlt hk
      go_wp2_with fail
      rw [← hWa]
      refine (CO.out Wa psv LKa.out).mono ?_
      rintro e wb ⟨rfl, hkb⟩
      obtain ⟨Wc, hWc⟩ : ∃ Wc, Wc = wb.alloc (.cells #[.string o.name, .slice pa n1 ca, .slice pb n2 cb', .slice pd n3 cd, .slice pe n4 ce] 76) := ⟨_, rfl⟩
      have KWc : Hid (Keep wq Wc) := Lib.hid (by rw [hWc]; exact (KWa.out.trans hkb).alloc _)
      have B6 : Hid (Box Wc wq.heap.size #[.string cn, .int .u32 cs]) := Lib.hid (by rw [hWc]; exact (B6a.out.keep hkb).alloc _)
      have B7 : Hid (Box Wc wb.heap.size #[.string o.name, .slice pa n1 ca, .slice pb n2 cb', .slice pd n3 cd, .slice pe n4 ce]) := Lib.hid (by rw [hWc]; exact Box.new _ _ _)
      have hsb : wq.heap.size ≤ wb.heap.size := (KWa.out.trans hkb).size
      clear hkb hWa d0 d1
      go_wp2_with fail
      rw [← hWc]
      clear hWc
      have BN : Hid (Box Wc w.heap.size #[.int .u32 nx]) := Lib.hid (HN.out.keep KWc.out)
      have hNlt : w.heap.size < wq.heap.size := HN.out.lt
      have KR : Hid (KeepBut (fun z => z = w.heap.size ∨ Wc.heap.size ≤ z) Wc Wc) := Lib.hid (KeepBut.refl _ _)
      have hc6 : wq.heap.size < Wc.heap.size := B6.out.lt
      have hc7 : wb.heap.size < Wc.heap.size := B7.out.lt
      apply bothQ (F := fun (tb : Nat) (W : World) => Wc.heap.size ≤ tb ∧ KeepBut (fun z => z = w.heap.size ∨ Wc.heap.size ≤ z) Wc W ∧ Box W w.heap.size #[.int .u32 (nx + fc + n2 + cs)] ∧ Box W tb #[.string cn, .int .u32 nx, .int .u32 fc, .int .u32 (nx + fc), .int .u32 n2, .int .u32 (nx + fc + n2), .int .u32 cs, .slice none 0 0])
      · intro REST
        refine Rel.regionP (KeepBut (fun z => z = w.heap.size ∨ Wc.heap.size ≤ z)) (butWay _) [] [0, 1, 2, 3, 4, 5, 6, 8, 9, 10, 11, 12, 14, 15, 16] 6 (by kernel_rfl) (by kernel_rfl) (Keep.refl _) ?_
        repeat (apply Rel.pre_step (by rfl) (by rfl) (by rfl)
                · intro W' hW'
                  have c6 := (B6.out.but hW' (by omega)).cells
                  have c7 := (B7.out.but hW' (by omega)).cells
                  go_simp
                  first
                    | (apply yes_enter; go_at_call 71; refine (CCL.out _).mono ?_; rintro e w' ⟨rfl, hk⟩; exact ⟨rfl, hk⟩)
                    | (apply yes_enter; go_at_call 72; refine (CFL.out _).mono ?_; rintro e w' ⟨rfl, rfl⟩; exact ⟨rfl, Keep.refl _⟩)
                    | exact ⟨rfl, Keep.refl _⟩
                go_simp)
        apply Rel.pre_end
        refine Rel.every_two 7 19 (by kernel_rfl) (by rfl) (by rfl) (by rfl) (by rfl) ?_ ?_
        · intro W1 h1
          have BNx := BN.out.keep h1
          go_simp
          apply Rel.gives_enter
          first | go_at_fn 70 | go_at_call 70 | skip
          refine (lktake_any w.heap.size (nx) (fc) (by omega) (by omega) (by omega) W1 BNx).mono ?_
          rintro e w1 ⟨rfl, hb1, hk1⟩
          refine ⟨_, rfl, hk1.mono (fun _ _ h => .inl h), ?_⟩
          replace KR := Lib.hid ((KR.out.trans (h1.but _)).trans (hk1.mono (T := fun z => z = w.heap.size ∨ Wc.heap.size ≤ z) (fun _ _ h => .inl h)))
          replace BN := Lib.hid hb1
          skip
          clear hb1 hk1 h1 BNx
          go_simp
          refine Rel.every_two 13 19 (by kernel_rfl) (by rfl) (by rfl) (by rfl) (by rfl) ?_ ?_
          · intro W1 h1
            have BNx := BN.out.keep h1
            go_simp
            apply Rel.gives_enter
            first | go_at_fn 70 | go_at_call 70 | skip
            refine (lktake_any w.heap.size (nx + fc) (n2) (by omega) (by omega) (by omega) W1 BNx).mono ?_
            rintro e w1 ⟨rfl, hb1, hk1⟩
            refine ⟨_, rfl, hk1.mono (fun _ _ h => .inl h), ?_⟩
            replace KR := Lib.hid ((KR.out.trans (h1.but _)).trans (hk1.mono (T := fun z => z = w.heap.size ∨ Wc.heap.size ≤ z) (fun _ _ h => .inl h)))
            replace BN := Lib.hid hb1
            skip
            clear hb1 hk1 h1 BNx
            go_simp
            refine Rel.every_two 17 19 (by kernel_rfl) (by rfl) (by rfl) (by rfl) (by rfl) ?_ ?_
            · intro W1 h1
              have BNx := BN.out.keep h1
              go_simp
              apply Rel.gives_enter
              first | go_at_fn 70 | go_at_call 70 | skip
              refine (lktake_any w.heap.size (nx + fc + n2) (cs) (by omega) (by omega) (by omega) W1 BNx).mono ?_
              rintro e w1 ⟨rfl, hb1, hk1⟩
              refine ⟨_, rfl, hk1.mono (fun _ _ h => .inl h), ?_⟩
              replace KR := Lib.hid ((KR.out.trans (h1.but _)).trans (hk1.mono (T := fun z => z = w.heap.size ∨ Wc.heap.size ≤ z) (fun _ _ h => .inl h)))
              replace BN := Lib.hid hb1
              skip
              clear hb1 hk1 h1 BNx
              go_simp
              refine Rel.every_two 18 19 (by kernel_rfl) (by rfl) (by rfl) (by rfl) (by rfl) ?_ ?_
              · intro W1 h1
                go_simp
                apply Rel.gives_value
                refine ⟨KeepBut.refl _ _, ?_⟩
                replace KR := Lib.hid (KR.out.trans (h1.but _))
                replace BN := Lib.hid (BN.out.keep h1)
                skip
                clear h1
                go_simp
                apply Rel.every_one 19 (by kernel_rfl) (by rfl) (by rfl)
                intro W1 h1
                go_simp
                apply Rel.gives_value
                refine ⟨((Keep.refl _).alloc _).but _, ?_⟩
                have hs1 : Wc.heap.size ≤ W1.heap.size := Nat.le_trans KR.out.size h1.size
                replace KR := Lib.hid (KR.out.trans ((h1.alloc (.cells #[.string ⟨#[]⟩, .int .u32 0, .int .u32 0, .int .u32 0, .int .u32 0, .int .u32 0, .int .u32 0, .slice none 0 0] 83)).but _))
                replace BN := Lib.hid (BN.out.keep (h1.alloc (.cells #[.string ⟨#[]⟩, .int .u32 0, .int .u32 0, .int .u32 0, .int .u32 0, .int .u32 0, .int .u32 0, .slice none 0 0] 83)))
                have BT := Lib.hid (Box.new W1 #[.string ⟨#[]⟩, .int .u32 0, .int .u32 0, .int .u32 0, .int .u32 0, .int .u32 0, .int .u32 0, .slice none 0 0] 83)
                obtain ⟨tb, htb⟩ : ∃ tb, tb = W1.heap.size := ⟨_, rfl⟩
                rw [← htb] at BT hs1 ⊢
                obtain ⟨WB, hWB⟩ : ∃ WB, WB = W1.alloc (.cells #[.string ⟨#[]⟩, .int .u32 0, .int .u32 0, .int .u32 0, .int .u32 0, .int .u32 0, .int .u32 0, .slice none 0 0] 83) := ⟨_, rfl⟩
                rw [← hWB] at KR BN BT ⊢
                clear hWB htb h1
                go_simp
                apply Rel.every_one 20 (by kernel_rfl) (by rfl) (by rfl)
                intro W1 h1
                have BTx := BT.out.keep h1
                have ct := BTx.cells
                have ft := BTx.thawed
                have KR1 := KR.out.trans (h1.but _)
                have BNx := BN.out.keep h1
                go_simp
                apply Rel.gives_skip
                obtain ⟨W4, hW4⟩ : ∃ W4, W4 = ((((((((W1.setCell ⟨tb, 0, none⟩ (.string cn)).setCell ⟨tb, 1, none⟩ (.int .u32 nx)).setCell ⟨tb, 2, none⟩ (.int .u32 fc)).setCell ⟨tb, 3, none⟩ (.int .u32 (nx + fc))).setCell ⟨tb, 4, none⟩ (.int .u32 n2)).setCell ⟨tb, 5, none⟩ (.int .u32 (nx + fc + n2))).setCell ⟨tb, 6, none⟩ (.int .u32 cs)).setCell ⟨tb, 7, none⟩ (.slice none 0 0)) := ⟨_, rfl⟩
                rw [← hW4]
                have B4 : Box W4 tb #[.string cn, .int .u32 nx, .int .u32 fc, .int .u32 (nx + fc), .int .u32 n2, .int .u32 (nx + fc + n2), .int .u32 cs, .slice none 0 0] := by rw [hW4]; simpa using ((((((((BTx.set 0 (.string cn)).set 1 (.int .u32 nx)).set 2 (.int .u32 fc)).set 3 (.int .u32 (nx + fc))).set 4 (.int .u32 n2)).set 5 (.int .u32 (nx + fc + n2))).set 6 (.int .u32 cs)).set 7 (.slice none 0 0))
                have K14 : KeepBut (fun z => z = w.heap.size ∨ Wc.heap.size ≤ z) W1 W4 := by
                  rw [hW4]
                  repeat (with_reducible refine KeepBut.setAt ?_ ?_ _; · exact .inl (.inr hs1))
                  exact KeepBut.refl _ _
                have BN4 : Box W4 w.heap.size #[.int .u32 (nx + fc + n2 + cs)] := by
                  rw [hW4]
                  repeat (with_reducible refine Box.other ?_ ?_ _; rotate_left; · simp; omega)
                  exact BNx
                refine ⟨K14, ?_⟩
                have KR4 := KR1.trans K14
                clear hW4 K14 KR1 BNx ct ft BTx h1 BT BN KR
                go_simp
                refine Rel.every_end (by kernel_rfl) ?_
                intro WA hA
                exact REST tb WA ⟨hs1, KR4.trans (hA.but _), BN4.keep hA, B4.keep hA⟩
              · intro W1 h1
                go_simp
                apply Rel.gives_value
                refine ⟨((Keep.refl _).alloc _).but _, ?_⟩
                have hs1 : Wc.heap.size ≤ W1.heap.size := Nat.le_trans KR.out.size h1.size
                replace KR := Lib.hid (KR.out.trans ((h1.alloc (.cells #[.string ⟨#[]⟩, .int .u32 0, .int .u32 0, .int .u32 0, .int .u32 0, .int .u32 0, .int .u32 0, .slice none 0 0] 83)).but _))
                replace BN := Lib.hid (BN.out.keep (h1.alloc (.cells #[.string ⟨#[]⟩, .int .u32 0, .int .u32 0, .int .u32 0, .int .u32 0, .int .u32 0, .int .u32 0, .slice none 0 0] 83)))
                have BT := Lib.hid (Box.new W1 #[.string ⟨#[]⟩, .int .u32 0, .int .u32 0, .int .u32 0, .int .u32 0, .int .u32 0, .int .u32 0, .slice none 0 0] 83)
                obtain ⟨tb, htb⟩ : ∃ tb, tb = W1.heap.size := ⟨_, rfl⟩
                rw [← htb] at BT hs1 ⊢
                obtain ⟨WB, hWB⟩ : ∃ WB, WB = W1.alloc (.cells #[.string ⟨#[]⟩, .int .u32 0, .int .u32 0, .int .u32 0, .int .u32 0, .int .u32 0, .int .u32 0, .slice none 0 0] 83) := ⟨_, rfl⟩
                rw [← hWB] at KR BN BT ⊢
                clear hWB htb h1
                go_simp
                apply Rel.every_one 18 (by kernel_rfl) (by rfl) (by rfl)
                intro W1 h1
                go_simp
                apply Rel.gives_value
                refine ⟨KeepBut.refl _ _, ?_⟩
                replace KR := Lib.hid (KR.out.trans (h1.but _))
                replace BN := Lib.hid (BN.out.keep h1)
                replace BT := Lib.hid (BT.out.keep h1)
                clear h1
                go_simp
                apply Rel.every_one 20 (by kernel_rfl) (by rfl) (by rfl)
                intro W1 h1
                have BTx := BT.out.keep h1
                have ct := BTx.cells
                have ft := BTx.thawed
                have KR1 := KR.out.trans (h1.but _)
                have BNx := BN.out.keep h1
                go_simp
                apply Rel.gives_skip
                obtain ⟨W4, hW4⟩ : ∃ W4, W4 = ((((((((W1.setCell ⟨tb, 0, none⟩ (.string cn)).setCell ⟨tb, 1, none⟩ (.int .u32 nx)).setCell ⟨tb, 2, none⟩ (.int .u32 fc)).setCell ⟨tb, 3, none⟩ (.int .u32 (nx + fc))).setCell ⟨tb, 4, none⟩ (.int .u32 n2)).setCell ⟨tb, 5, none⟩ (.int .u32 (nx + fc + n2))).setCell ⟨tb, 6, none⟩ (.int .u32 cs)).setCell ⟨tb, 7, none⟩ (.slice none 0 0)) := ⟨_, rfl⟩
                rw [← hW4]
                have B4 : Box W4 tb #[.string cn, .int .u32 nx, .int .u32 fc, .int .u32 (nx + fc), .int .u32 n2, .int .u32 (nx + fc + n2), .int .u32 cs, .slice none 0 0] := by rw [hW4]; simpa using ((((((((BTx.set 0 (.string cn)).set 1 (.int .u32 nx)).set 2 (.int .u32 fc)).set 3 (.int .u32 (nx + fc))).set 4 (.int .u32 n2)).set 5 (.int .u32 (nx + fc + n2))).set 6 (.int .u32 cs)).set 7 (.slice none 0 0))
                have K14 : KeepBut (fun z => z = w.heap.size ∨ Wc.heap.size ≤ z) W1 W4 := by
                  rw [hW4]
                  repeat (with_reducible refine KeepBut.setAt ?_ ?_ _; · exact .inl (.inr hs1))
                  exact KeepBut.refl _ _
                have BN4 : Box W4 w.heap.size #[.int .u32 (nx + fc + n2 + cs)] := by
                  rw [hW4]
                  repeat (with_reducible refine Box.other ?_ ?_ _; rotate_left; · simp; omega)
                  exact BNx
                refine ⟨K14, ?_⟩
                have KR4 := KR1.trans K14
                clear hW4 K14 KR1 BNx ct ft BTx h1 BT BN KR
                go_simp
                refine Rel.every_end (by kernel_rfl) ?_
                intro WA hA
                exact REST tb WA ⟨hs1, KR4.trans (hA.but _), BN4.keep hA, B4.keep hA⟩
            · intro W1 h1
              go_simp
              apply Rel.gives_value
              refine ⟨((Keep.refl _).alloc _).but _, ?_⟩
              have hs1 : Wc.heap.size ≤ W1.heap.size := Nat.le_trans KR.out.size h1.size
              replace KR := Lib.hid (KR.out.trans ((h1.alloc (.cells #[.string ⟨#[]⟩, .int .u32 0, .int .u32 0, .int .u32 0, .int .u32 0, .int .u32 0, .int .u32 0, .slice none 0 0] 83)).but _))
              replace BN := Lib.hid (BN.out.keep (h1.alloc (.cells #[.string ⟨#[]⟩, .int .u32 0, .int .u32 0, .int .u32 0, .int .u32 0, .int .u32 0, .int .u32 0, .slice none 0 0] 83)))
              have BT := Lib.hid (Box.new W1 #[.string ⟨#[]⟩, .int .u32 0, .int .u32 0, .int .u32 0, .int .u32 0, .int .u32 0, .int .u32 0, .slice none 0 0] 83)
              obtain ⟨tb, htb⟩ : ∃ tb, tb = W1.heap.size := ⟨_, rfl⟩
              rw [← htb] at BT hs1 ⊢
              obtain ⟨WB, hWB⟩ : ∃ WB, WB = W1.alloc (.cells #[.string ⟨#[]⟩, .int .u32 0, .int .u32 0, .int .u32 0, .int .u32 0, .int .u32 0, .int .u32 0, .slice none 0 0] 83) := ⟨_, rfl⟩
              rw [← hWB] at KR BN BT ⊢
              clear hWB htb h1
              go_simp
              apply Rel.every_one 17 (by kernel_rfl) (by rfl) (by rfl)
              intro W1 h1
              have BNx := BN.out.keep h1
              go_simp
              apply Rel.gives_enter
              first | go_at_fn 70 | go_at_call 70 | skip
              refine (lktake_any w.heap.size (nx + fc + n2) (cs) (by omega) (by omega) (by omega) W1 BNx).mono ?_
              rintro e w1 ⟨rfl, hb1, hk1⟩
              refine ⟨_, rfl, hk1.mono (fun _ _ h => .inl h), ?_⟩
              replace KR := Lib.hid ((KR.out.trans (h1.but _)).trans (hk1.mono (T := fun z => z = w.heap.size ∨ Wc.heap.size ≤ z) (fun _ _ h => .inl h)))
              replace BN := Lib.hid hb1
              replace BT := Lib.hid ((BT.out.keep h1).but hk1 (by omega))
              clear hb1 hk1 h1 BNx
              go_simp
              apply Rel.every_one 18 (by kernel_rfl) (by rfl) (by rfl)
              intro W1 h1
              go_simp
              apply Rel.gives_value
              refine ⟨KeepBut.refl _ _, ?_⟩
              replace KR := Lib.hid (KR.out.trans (h1.but _))
              replace BN := Lib.hid (BN.out.keep h1)
              replace BT := Lib.hid (BT.out.keep h1)
              clear h1
              go_simp
              apply Rel.every_one 20 (by kernel_rfl) (by rfl) (by rfl)
              intro W1 h1
              have BTx := BT.out.keep h1
              have ct := BTx.cells
              have ft := BTx.thawed
              have KR1 := KR.out.trans (h1.but _)
              have BNx := BN.out.keep h1
              go_simp
              apply Rel.gives_skip
              obtain ⟨W4, hW4⟩ : ∃ W4, W4 = ((((((((W1.setCell ⟨tb, 0, none⟩ (.string cn)).setCell ⟨tb, 1, none⟩ (.int .u32 nx)).setCell ⟨tb, 2, none⟩ (.int .u32 fc)).setCell ⟨tb, 3, none⟩ (.int .u32 (nx + fc))).setCell ⟨tb, 4, none⟩ (.int .u32 n2)).setCell ⟨tb, 5, none⟩ (.int .u32 (nx + fc + n2))).setCell ⟨tb, 6, none⟩ (.int .u32 cs)).setCell ⟨tb, 7, none⟩ (.slice none 0 0)) := ⟨_, rfl⟩
              rw [← hW4]
              have B4 : Box W4 tb #[.string cn, .int .u32 nx, .int .u32 fc, .int .u32 (nx + fc), .int .u32 n2, .int .u32 (nx + fc + n2), .int .u32 cs, .slice none 0 0] := by rw [hW4]; simpa using ((((((((BTx.set 0 (.string cn)).set 1 (.int .u32 nx)).set 2 (.int .u32 fc)).set 3 (.int .u32 (nx + fc))).set 4 (.int .u32 n2)).set 5 (.int .u32 (nx + fc + n2))).set 6 (.int .u32 cs)).set 7 (.slice none 0 0))
              have K14 : KeepBut (fun z => z = w.heap.size ∨ Wc.heap.size ≤ z) W1 W4 := by
                rw [hW4]
                repeat (with_reducible refine KeepBut.setAt ?_ ?_ _; · exact .inl (.inr hs1))
                exact KeepBut.refl _ _
              have BN4 : Box W4 w.heap.size #[.int .u32 (nx + fc + n2 + cs)] := by
                rw [hW4]
                repeat (with_reducible refine Box.other ?_ ?_ _; rotate_left; · simp; omega)
                exact BNx
              refine ⟨K14, ?_⟩
              have KR4 := KR1.trans K14
              clear hW4 K14 KR1 BNx ct ft BTx h1 BT BN KR
              go_simp
              refine Rel.every_end (by kernel_rfl) ?_
              intro WA hA
              exact REST tb WA ⟨hs1, KR4.trans (hA.but _), BN4.keep hA, B4.keep hA⟩
          · intro W1 h1
            go_simp
            apply Rel.gives_value
            refine ⟨((Keep.refl _).alloc _).but _, ?_⟩
            have hs1 : Wc.heap.size ≤ W1.heap.size := Nat.le_trans KR.out.size h1.size
            replace KR := Lib.hid (KR.out.trans ((h1.alloc (.cells #[.string ⟨#[]⟩, .int .u32 0, .int .u32 0, .int .u32 0, .int .u32 0, .int .u32 0, .int .u32 0, .slice none 0 0] 83)).but _))
            replace BN := Lib.hid (BN.out.keep (h1.alloc (.cells #[.string ⟨#[]⟩, .int .u32 0, .int .u32 0, .int .u32 0, .int .u32 0, .int .u32 0, .int .u32 0, .slice none 0 0] 83)))
            have BT := Lib.hid (Box.new W1 #[.string ⟨#[]⟩, .int .u32 0, .int .u32 0, .int .u32 0, .int .u32 0, .int .u32 0, .int .u32 0, .slice none 0 0] 83)
            obtain ⟨tb, htb⟩ : ∃ tb, tb = W1.heap.size := ⟨_, rfl⟩
            rw [← htb] at BT hs1 ⊢
            obtain ⟨WB, hWB⟩ : ∃ WB, WB = W1.alloc (.cells #[.string ⟨#[]⟩, .int .u32 0, .int .u32 0, .int .u32 0, .int .u32 0, .int .u32 0, .int .u32 0, .slice none 0 0] 83) := ⟨_, rfl⟩
            rw [← hWB] at KR BN BT ⊢
            clear hWB htb h1
            go_simp
            apply Rel.every_one 13 (by kernel_rfl) (by rfl) (by rfl)
            intro W1 h1
            have BNx := BN.out.keep h1
            go_simp
            apply Rel.gives_enter
            first | go_at_fn 70 | go_at_call 70 | skip
            refine (lktake_any w.heap.size (nx + fc) (n2) (by omega) (by omega) (by omega) W1 BNx).mono ?_
            rintro e w1 ⟨rfl, hb1, hk1⟩
            refine ⟨_, rfl, hk1.mono (fun _ _ h => .inl h), ?_⟩
            replace KR := Lib.hid ((KR.out.trans (h1.but _)).trans (hk1.mono (T := fun z => z = w.heap.size ∨ Wc.heap.size ≤ z) (fun _ _ h => .inl h)))
            replace BN := Lib.hid hb1
            replace BT := Lib.hid ((BT.out.keep h1).but hk1 (by omega))
            clear hb1 hk1 h1 BNx
            go_simp
            apply Rel.every_one 17 (by kernel_rfl) (by rfl) (by rfl)
            intro W1 h1
            have BNx := BN.out.keep h1
            go_simp
            apply Rel.gives_enter
            first | go_at_fn 70 | go_at_call 70 | skip
            refine (lktake_any w.heap.size (nx + fc + n2) (cs) (by omega) (by omega) (by omega) W1 BNx).mono ?_
            rintro e w1 ⟨rfl, hb1, hk1⟩
            refine ⟨_, rfl, hk1.mono (fun _ _ h => .inl h), ?_⟩
            replace KR := Lib.hid ((KR.out.trans (h1.but _)).trans (hk1.mono (T := fun z => z = w.heap.size ∨ Wc.heap.size ≤ z) (fun _ _ h => .inl h)))
            replace BN := Lib.hid hb1
            replace BT := Lib.hid ((BT.out.keep h1).but hk1 (by omega))
            clear hb1 hk1 h1 BNx
            go_simp
            apply Rel.every_one 18 (by kernel_rfl) (by rfl) (by rfl)
            intro W1 h1
            go_simp
            apply Rel.gives_value
            refine ⟨KeepBut.refl _ _, ?_⟩
            replace KR := Lib.hid (KR.out.trans (h1.but _))
            replace BN := Lib.hid (BN.out.keep h1)
            replace BT := Lib.hid (BT.out.keep h1)
            clear h1
            go_simp
            apply Rel.every_one 20 (by kernel_rfl) (by rfl) (by rfl)
            intro W1 h1
            have BTx := BT.out.keep h1
            have ct := BTx.cells
            have ft := BTx.thawed
            have KR1 := KR.out.trans (h1.but _)
            have BNx := BN.out.keep h1
            go_simp
            apply Rel.gives_skip
            obtain ⟨W4, hW4⟩ : ∃ W4, W4 = ((((((((W1.setCell ⟨tb, 0, none⟩ (.string cn)).setCell ⟨tb, 1, none⟩ (.int .u32 nx)).setCell ⟨tb, 2, none⟩ (.int .u32 fc)).setCell ⟨tb, 3, none⟩ (.int .u32 (nx + fc))).setCell ⟨tb, 4, none⟩ (.int .u32 n2)).setCell ⟨tb, 5, none⟩ (.int .u32 (nx + fc + n2))).setCell ⟨tb, 6, none⟩ (.int .u32 cs)).setCell ⟨tb, 7, none⟩ (.slice none 0 0)) := ⟨_, rfl⟩
            rw [← hW4]
            have B4 : Box W4 tb #[.string cn, .int .u32 nx, .int .u32 fc, .int .u32 (nx + fc), .int .u32 n2, .int .u32 (nx + fc + n2), .int .u32 cs, .slice none 0 0] := by rw [hW4]; simpa using ((((((((BTx.set 0 (.string cn)).set 1 (.int .u32 nx)).set 2 (.int .u32 fc)).set 3 (.int .u32 (nx + fc))).set 4 (.int .u32 n2)).set 5 (.int .u32 (nx + fc + n2))).set 6 (.int .u32 cs)).set 7 (.slice none 0 0))
            have K14 : KeepBut (fun z => z = w.heap.size ∨ Wc.heap.size ≤ z) W1 W4 := by
              rw [hW4]
              repeat (with_reducible refine KeepBut.setAt ?_ ?_ _; · exact .inl (.inr hs1))
              exact KeepBut.refl _ _
            have BN4 : Box W4 w.heap.size #[.int .u32 (nx + fc + n2 + cs)] := by
              rw [hW4]
              repeat (with_reducible refine Box.other ?_ ?_ _; rotate_left; · simp; omega)
              exact BNx
            refine ⟨K14, ?_⟩
            have KR4 := KR1.trans K14
            clear hW4 K14 KR1 BNx ct ft BTx h1 BT BN KR
            go_simp
            refine Rel.every_end (by kernel_rfl) ?_
            intro WA hA
            exact REST tb WA ⟨hs1, KR4.trans (hA.but _), BN4.keep hA, B4.keep hA⟩
        · intro W1 h1
          go_simp
          apply Rel.gives_value
          refine ⟨((Keep.refl _).alloc _).but _, ?_⟩
          have hs1 : Wc.heap.size ≤ W1.heap.size := Nat.le_trans KR.out.size h1.size
          replace KR := Lib.hid (KR.out.trans ((h1.alloc (.cells #[.string ⟨#[]⟩, .int .u32 0, .int .u32 0, .int .u32 0, .int .u32 0, .int .u32 0, .int .u32 0, .slice none 0 0] 83)).but _))
          replace BN := Lib.hid (BN.out.keep (h1.alloc (.cells #[.string ⟨#[]⟩, .int .u32 0, .int .u32 0, .int .u32 0, .int .u32 0, .int .u32 0, .int .u32 0, .slice none 0 0] 83)))
          have BT := Lib.hid (Box.new W1 #[.string ⟨#[]⟩, .int .u32 0, .int .u32 0, .int .u32 0, .int .u32 0, .int .u32 0, .int .u32 0, .slice none 0 0] 83)
          obtain ⟨tb, htb⟩ : ∃ tb, tb = W1.heap.size := ⟨_, rfl⟩
          rw [← htb] at BT hs1 ⊢
          obtain ⟨WB, hWB⟩ : ∃ WB, WB = W1.alloc (.cells #[.string ⟨#[]⟩, .int .u32 0, .int .u32 0, .int .u32 0, .int .u32 0, .int .u32 0, .int .u32 0, .slice none 0 0] 83) := ⟨_, rfl⟩
          rw [← hWB] at KR BN BT ⊢
          clear hWB htb h1
          go_simp
          apply Rel.every_one 7 (by kernel_rfl) (by rfl) (by rfl)
          intro W1 h1
          have BNx := BN.out.keep h1
          go_simp
          apply Rel.gives_enter
          first | go_at_fn 70 | go_at_call 70 | skip
          refine (lktake_any w.heap.size (nx) (fc) (by omega) (by omega) (by omega) W1 BNx).mono ?_
          rintro e w1 ⟨rfl, hb1, hk1⟩
          refine ⟨_, rfl, hk1.mono (fun _ _ h => .inl h), ?_⟩
          replace KR := Lib.hid ((KR.out.trans (h1.but _)).trans (hk1.mono (T := fun z => z = w.heap.size ∨ Wc.heap.size ≤ z) (fun _ _ h => .inl h)))
          replace BN := Lib.hid hb1
          replace BT := Lib.hid ((BT.out.keep h1).but hk1 (by omega))
          clear hb1 hk1 h1 BNx
          go_simp
          apply Rel.every_one 13 (by kernel_rfl) (by rfl) (by rfl)
          intro W1 h1
          have BNx := BN.out.keep h1
          go_simp
          apply Rel.gives_enter
          first | go_at_fn 70 | go_at_call 70 | skip
          refine (lktake_any w.heap.size (nx + fc) (n2) (by omega) (by omega) (by omega) W1 BNx).mono ?_
          rintro e w1 ⟨rfl, hb1, hk1⟩
          refine ⟨_, rfl, hk1.mono (fun _ _ h => .inl h), ?_⟩
          replace KR := Lib.hid ((KR.out.trans (h1.but _)).trans (hk1.mono (T := fun z => z = w.heap.size ∨ Wc.heap.size ≤ z) (fun _ _ h => .inl h)))
          replace BN := Lib.hid hb1
          replace BT := Lib.hid ((BT.out.keep h1).but hk1 (by omega))
          clear hb1 hk1 h1 BNx
          go_simp
          apply Rel.every_one 17 (by kernel_rfl) (by rfl) (by rfl)
          intro W1 h1
          have BNx := BN.out.keep h1
          go_simp
          apply Rel.gives_enter
          first | go_at_fn 70 | go_at_call 70 | skip
          refine (lktake_any w.heap.size (nx + fc + n2) (cs) (by omega) (by omega) (by omega) W1 BNx).mono ?_
          rintro e w1 ⟨rfl, hb1, hk1⟩
          refine ⟨_, rfl, hk1.mono (fun _ _ h => .inl h), ?_⟩
          replace KR := Lib.hid ((KR.out.trans (h1.but _)).trans (hk1.mono (T := fun z => z = w.heap.size ∨ Wc.heap.size ≤ z) (fun _ _ h => .inl h)))
          replace BN := Lib.hid hb1
          replace BT := Lib.hid ((BT.out.keep h1).but hk1 (by omega))
          clear hb1 hk1 h1 BNx
          go_simp
          apply Rel.every_one 18 (by kernel_rfl) (by rfl) (by rfl)
          intro W1 h1
          go_simp
          apply Rel.gives_value
          refine ⟨KeepBut.refl _ _, ?_⟩
          replace KR := Lib.hid (KR.out.trans (h1.but _))
          replace BN := Lib.hid (BN.out.keep h1)
          replace BT := Lib.hid (BT.out.keep h1)
          clear h1
          go_simp
          apply Rel.every_one 20 (by kernel_rfl) (by rfl) (by rfl)
          intro W1 h1
          have BTx := BT.out.keep h1
          have ct := BTx.cells
          have ft := BTx.thawed
          have KR1 := KR.out.trans (h1.but _)
          have BNx := BN.out.keep h1
          go_simp
          apply Rel.gives_skip
          obtain ⟨W4, hW4⟩ : ∃ W4, W4 = ((((((((W1.setCell ⟨tb, 0, none⟩ (.string cn)).setCell ⟨tb, 1, none⟩ (.int .u32 nx)).setCell ⟨tb, 2, none⟩ (.int .u32 fc)).setCell ⟨tb, 3, none⟩ (.int .u32 (nx + fc))).setCell ⟨tb, 4, none⟩ (.int .u32 n2)).setCell ⟨tb, 5, none⟩ (.int .u32 (nx + fc + n2))).setCell ⟨tb, 6, none⟩ (.int .u32 cs)).setCell ⟨tb, 7, none⟩ (.slice none 0 0)) := ⟨_, rfl⟩
          rw [← hW4]
          have B4 : Box W4 tb #[.string cn, .int .u32 nx, .int .u32 fc, .int .u32 (nx + fc), .int .u32 n2, .int .u32 (nx + fc + n2), .int .u32 cs, .slice none 0 0] := by rw [hW4]; simpa using ((((((((BTx.set 0 (.string cn)).set 1 (.int .u32 nx)).set 2 (.int .u32 fc)).set 3 (.int .u32 (nx + fc))).set 4 (.int .u32 n2)).set 5 (.int .u32 (nx + fc + n2))).set 6 (.int .u32 cs)).set 7 (.slice none 0 0))
          have K14 : KeepBut (fun z => z = w.heap.size ∨ Wc.heap.size ≤ z) W1 W4 := by
            rw [hW4]
            repeat (with_reducible refine KeepBut.setAt ?_ ?_ _; · exact .inl (.inr hs1))
            exact KeepBut.refl _ _
          have BN4 : Box W4 w.heap.size #[.int .u32 (nx + fc + n2 + cs)] := by
            rw [hW4]
            repeat (with_reducible refine Box.other ?_ ?_ _; rotate_left; · simp; omega)
            exact BNx
          refine ⟨K14, ?_⟩
          have KR4 := KR1.trans K14
          clear hW4 K14 KR1 BNx ct ft BTx h1 BT BN KR
          go_simp
          refine Rel.every_end (by kernel_rfl) ?_
          intro WA hA
          exact REST tb WA ⟨hs1, KR4.trans (hA.but _), BN4.keep hA, B4.keep hA⟩
      · intro tb W hF
        show _
        obtain ⟨htb, KR2, BN2, BT2⟩ := hF
        have KRW := Lib.hid ((KWc.out.but (fun z => z = w.heap.size ∨ wq.heap.size ≤ z)).trans (KR2.mono (fun z hz e => e.imp id (fun e => by omega))))
        have SW := Lib.hid (HS.out.to hblt KRW.out (fun z hz e => e.resolve_right (by omega)))
        have KwW := Lib.hid (HK0.out.butNew SW.out.but (fun x hx => by rw [hx]; exact hb0))
        have B7W := B7.out.but KR2 (by omega)
        have c7 := B7W.cells
        have BTW := Lib.hid BT2
        have BNW := Lib.hid BN2
        have htbW : tb < W.heap.size := BT2.lt
        clear KR KR2 BT2 BN2 B7W CFL CCL BN
        go_wp2_with fail
        refine (CE.out W KwW.out).mono ?_
        rintro e We ⟨v, rfl, hsl, hke⟩
        obtain ⟨pE, cE, rfl, hcE, _, hxE⟩ := hsl
        have HXE := Lib.hid hxE
        have BTe := Lib.hid (BTW.out.keep hke)
        have hWe : W.heap.size ≤ We.heap.size := hke.size
        have HKE := Lib.hid hke
        obtain ⟨es0, hes0⟩ : ∃ es0, es0 = placesL o := ⟨_, rfl⟩
        rw [← hes0] at HLP HXE hcE
        have hent : Hid (∀ e ∈ es0, 0 ≤ e ∧ e ≤ 16384) := Lib.hid (by rw [hes0, ← HKK.out.2.2]; exact HPH.out.ent cc HKK.out.2.1)
        obtain ⟨es, hes⟩ : ∃ es, es = es0.map fun e => nx + e := ⟨_, rfl⟩
        rw [← hes] at HLP
        have hesl : es.length = es0.length := by rw [hes, List.length_map]
        have HES := Lib.hid hes
        have hell : es0.length ≤ 64 := by rw [hes0, ← HKK.out.2.2]; exact HPH.out.few cc HKK.out.2.1
        obtain ⟨i0, hi0, hz0, hz1, hz2⟩ := oinfo_parts infoE32
        rw [← hes0]
        clear hxE hke hes0 hes c7
        go_wp2_with fail
        go_loopw [50] (fun i wi => ∃ (j : Nat) (ev : Value), j ≤ es0.length ∧ i = .int .i64 (j : Int) ∧ KeepBut (fun z => z = tb) We wi ∧ Box wi tb #[.string cn, .int .u32 nx, .int .u32 fc, .int .u32 (nx + fc), .int .u32 n2, .int .u32 (nx + fc + n2), .int .u32 cs, ev] ∧ wi.ownsRow We.heap.size 31 1 ev j ((es.take j).map u32V)) (fun i _ => es0.length - (intOf i).toNat)
        case atStart => exact ⟨0, .slice none 0 0, Nat.zero_le _, rfl, KeepBut.refl _ _, BTe.out, ⟨by simp, .inl ⟨rfl, rfl⟩⟩⟩
        case round =>
          obtain ⟨j, ev, hj, rfl, hki2, hbt, hown⟩ := hrel
          have HKI := Lib.hid hki2
          have HBT := Lib.hid hbt
          have HOW := Lib.hid hown
          clear hki2 hbt hown
          by_cases hjl : j < es0.length
          · obtain ⟨x, hx⟩ : ∃ x, es0[j]? = some x := ⟨_, List.getElem?_eq_getElem hjl⟩
            obtain ⟨be, rfl, hbe1, hbe2, hbe3, hcl⟩ := HXE.out.resolve_left (fun e => by
              have := congrArg List.length e
              rw [List.length_map] at this
              simp at this
              rw [this] at hjl
              simp at hjl)
            have x0 := ocell_but HKI.out hbe3 (by omega) (hcl j (.int .u32 x) (by rw [List.getElem?_map, hx]; rfl))
            rw [Nat.zero_add] at x0
            obtain ⟨x1, x2⟩ := hent.out x (List.mem_of_getElem? hx)
            have hji : (j : Int) < (es0.length : Int) := by omega
            have ct := HBT.out.cells
            have ft := HBT.out.thawed
            have wre : IntKind.u32.wrap (nx + x) = nx + x := by rw [IntKind.wrap_u32]; omega
            have HTK : Hid ((es.take (j + 1)).map u32V = (es.take j).map u32V ++ [.int .u32 (nx + x)]) := Lib.hid (by
              rw [HES.out, ← List.map_take, ← List.map_take, List.take_add_one, hx]
              simp [u32V])
            have KA : Hid (Keep wr (wr.alloc (.cells #[.int .u32 (nx + x)] 31))) := Lib.hid ((Keep.refl _).alloc _)
            have BR : Hid (Box (wr.alloc (.cells #[.int .u32 (nx + x)] 31)) wr.heap.size #[.int .u32 (nx + x)]) := Lib.hid (Box.new _ _ _)
            have szr := HKI.out.size
            have htbe : tb < We.heap.size := by omega
            have HJL := Lib.hid hjl
            clear hx hcl hjl
            go_wp2_with (at_builtin; refine wpList_append_own _ rfl _ _ 81 rfl We.heap.size 31 i0 _ 1 4 Tryz.underlying81 hi0 hz0 hz1 hz2 rfl (by decide) _ j ((es.take j).map u32V) rfl (owns_keep HOW.out KA.out) ⟨wr.heap.size, 0, none⟩ 1 1 [.int .u32 (nx + x)] rfl rfl ?c1 ?c2 ?c3 ?c4 ?c5 ?_)
            case c1 => exact cells_box BR.out rfl
            case c2 => intro u hu; simp at hu; subst hu; rfl
            case c3 => unfold maxLen; omega
            case c4 => omega
            case c5 => simp; omega
            intro v' w3 hown' hgrow _
            have hS : ∀ g, Value.ownBlock ev = some g → We.heap.size ≤ g := fun g hg => (World.ownsRow.lt HOW.out g hg).1
            have K3 := Lib.hid (keepBut_new (HKI.out.trans (KA.out.but _)) (grown_but hgrow (fun z => We.heap.size ≤ z) (fun g hg => hS g hg)))
            have B3 := Lib.hid (grown_box hgrow (HBT.out.keep KA.out) (fun e => by have := hS _ e.symm; omega))
            have c3 := B3.out.cells
            have f3 := B3.out.thawed
            replace hown' : w3.ownsRow We.heap.size 31 1 v' (j + 1) ((es.take (j + 1)).map u32V) := by
              rw [HTK.out]
              first | exact hown' | (rw [List.map_take]; exact hown')
            obtain ⟨pw, cw, hw, _, _, _⟩ := owns_cells hown' (by unfold maxLen; omega)
            subst hw
            have OW3 := Lib.hid hown'
            clear hgrow hS hown' ct ft x0
            go_wp2_with fail
            obtain ⟨W7, hW7⟩ : ∃ W7, W7 = w3.setCell ⟨tb, 7, none⟩ (.slice pw (j + 1) cw) := ⟨_, rfl⟩
            rw [← hW7]
            have K7 : KeepBut (fun z => z = tb) We W7 := by rw [hW7]; exact KeepBut.setAt (S := fun z => z = tb) (.inl rfl) K3.out _
            have B7x : Box W7 tb #[.string cn, .int .u32 nx, .int .u32 fc, .int .u32 (nx + fc), .int .u32 n2, .int .u32 (nx + fc + n2), .int .u32 cs, (.slice pw (j + 1) cw)] := by rw [hW7]; simpa using B3.out.set 7 (.slice pw (j + 1) cw)
            have O7 := ownsRow_setCell_other (a := ⟨tb, 7, none⟩) OW3.out (fun hc => by have := (World.ownsRow.lt OW3.out _ hc).1; simp only at this; omega) (.slice pw (j + 1) cw)
            rw [← hW7] at O7
            go_roundw
            case rel => exact ⟨j + 1, .slice pw (j + 1) cw, HJL.out, by go_num, K7, B7x, O7⟩
            case measure => have := HJL.out; simp [intOf]; omega
          · obtain rfl : j = es0.length := by omega
            obtain ⟨Wf, hWf⟩ : ∃ x, x = wr := ⟨_, rfl⟩
            subst hWf
            have OWF := HOW.out
            rw [← hesl, List.take_length] at OWF
            obtain ⟨pv, cv, hev, _, _, _⟩ := owns_cells OWF (by unfold maxLen; omega)
            subst hev
            have hevb := fun g (hg : (Value.slice pv es.length cv).ownBlock = some g) => (World.ownsRow.lt OWF g hg).1
            have hpsb := fun g (hg : psv.ownBlock = some g) => (World.ownsRow.lt HS.out.own g hg)
            have hWeq : wq.heap.size ≤ We.heap.size := by have := KRW.out.size; omega
            have KRF : KeepBut (fun z => z = w.heap.size ∨ wq.heap.size ≤ z) wq Wf := (KRW.out.trans (HKE.out.but _)).trans (HKI.out.mono (fun z hz e => .inr (by rw [e]; omega)))
            have SF := HS.out.to hblt KRF (fun z hz e => e.resolve_right (by omega))
            have BNF := (BNW.out.keep HKE.out).but HKI.out (by omega)
            have PE := SF.ent.snoc ⟨cn, ⟨nx, fc⟩, ⟨nx + fc, n2⟩, ⟨nx + fc + n2, cs⟩, es⟩ (.slice pv es.length cv) (owns_base OWF (by omega)) (fun g hg e => by have := hevb g hg; have := (hpsb g e).2; omega)
            have P : Hid (RQ w b (#[vc, vi, vs, vg, .string m.start.comp, .string m.start.from_, .string m.start.name, vl, .int .u32 size, psv, .slice none 0 0, is, st, ad, bs]) psv ((lparts l m.comps 16).take k) ves ⟨cn, ⟨nx, fc⟩, ⟨nx + fc, n2⟩, ⟨nx + fc + n2, cs⟩, es⟩ (.slice pv es.length cv) (nx + fc + n2 + cs) Wf) :=
              Lib.hid ⟨SF.but, SF.box, SF.own, PE, by have := SF.ent.len; exact this, BNF⟩
            have NB : Hid (((lparts l m.comps 16).take k).length + 1 ≤ 1000) := Lib.hid (by
              rw [List.length_take]
              have := HHK.out
              have := HPH.out.comps
              omega)
            have BTf := HBT.out
            have BTF := Lib.hid BTf
            have htbf : tb < Wf.heap.size := BTf.lt
            have hpstb : psv.ownBlock ≠ some tb := fun e => by have := (hpsb tb e).2; omega
            have htbb : ¬ tb = b := by omega
            obtain ⟨i8, hi8, hz8, hs8, hb8⟩ := oinfo_parts infoPart
            obtain ⟨ne, hne⟩ : ∃ ne, ne = es.length := ⟨_, rfl⟩
            rw [← hne] at P BTF
            clear hne OWF hevb hpsb KRF SF BNF PE BTf HOW HKI HBT HXE hent HES hesl hell
            go_wp2_with fail
            refine Rel.regionP (KeepBut (fun z => z = b ∨ psv.ownBlock = some z ∨ Wf.heap.size ≤ z)) (butWay _) [] [0, 1, 2, 3, 4, 6] 7 (by kernel_rfl) (by kernel_rfl) (Keep.refl _) ?_
            repeat (apply Rel.pre_step (by rfl) (by rfl) (by rfl)
                    · intro W' hW'
                      have ct := (BTF.out.but hW' (by rintro (e | e | e); exact htbb e; exact hpstb e; omega)).cells
                      go_simp
                      exact ⟨rfl, Keep.refl _⟩
                    go_simp)
            apply Rel.pre_end
            refine Rel.every_two 5 7 (by kernel_rfl) (by rfl) (by rfl) (by rfl) (by rfl) ?_ ?_
            · intro W1 h1
              have PP := Lib.hid (P.out.keep h1)
              have cx := PP.out.box.cells
              go_simp
              apply Rel.gives_value
              refine ⟨KeepBut.refl _ _, ?_⟩
              skip
              clear h1 cx P
              have P := PP
              clear PP
              go_simp
              apply Rel.every_one 7 (by kernel_rfl) (by rfl) (by rfl)
              intro W1 h1
              go_simp
              apply Rel.gives_value
              refine ⟨((Keep.refl _).alloc _).but _, ?_⟩
              have PP := Lib.hid (P.out.keep (h1.alloc (.cells #[.string cn, .int .u32 nx, .int .u32 fc, .int .u32 (nx + fc), .int .u32 n2, .int .u32 (nx + fc + n2), .int .u32 cs, .slice pv ne cv] 83)))
              have BB := Lib.hid (Box.new W1 #[.string cn, .int .u32 nx, .int .u32 fc, .int .u32 (nx + fc), .int .u32 n2, .int .u32 (nx + fc + n2), .int .u32 cs, .slice pv ne cv] 83)
              obtain ⟨gb, hgb⟩ : ∃ gb, gb = W1.heap.size := ⟨_, rfl⟩
              rw [← hgb] at BB ⊢
              obtain ⟨WB, hWB⟩ : ∃ WB, WB = W1.alloc (.cells #[.string cn, .int .u32 nx, .int .u32 fc, .int .u32 (nx + fc), .int .u32 n2, .int .u32 (nx + fc + n2), .int .u32 cs, .slice pv ne cv] 83) := ⟨_, rfl⟩
              rw [← hWB] at PP BB ⊢
              clear hWB hgb h1 P
              have P := PP
              clear PP
              go_simp
              apply Rel.every_one 8 (by kernel_rfl) (by rfl) (by rfl)
              intro W6 h6
              have P6 := Lib.hid (P.out.keep h6)
              have B6 := BB.out.keep h6
              refine gives_append_src W6 (.tmp 70) (.tmp 72) 35 35 rfl (w.heap.size + 1) 83 i8 _ 8 64 Tryz.underlying35 hi8 hz8 hs8 hb8 rfl _ _ _ rfl P6.out.own (.slice (some ⟨gb, 0, none⟩) 1 1) 1 (partRow (⟨cn, ⟨nx, fc⟩, ⟨nx + fc, n2⟩, ⟨nx + fc + n2, cs⟩, es⟩, .slice pv ne cv)) rfl (Src.ofSlice W6 Tryz.underlying35 _ 1 1 _ rfl (fun j u hj => by rw [show (⟨gb, 0, none⟩ : Addr).add j = ⟨gb, j, none⟩ by unfold Addr.add; split <;> simp_all, B6.cells, ← Array.getElem?_toList]; exact hj) (by intro u hu; simp [partRow] at hu; rcases hu with rfl | rfl | rfl | rfl | rfl | rfl | rfl | rfl <;> rfl)) (by have := NB.out; unfold maxLen; omega) (by have := NB.out; omega) (by have := P6.out.but.size; have := P6.out.nxt.lt; omega) ?_
              intro v7 V7 o7 g7 b7
              refine ⟨grown_but g7 _ (fun g hg => .inr (.inl hg)), ?_⟩
              have PP := Lib.hid (P6.out.push hblt o7 g7 b7)
              obtain ⟨pw, cw, hv7, _, _, _⟩ := owns_cells o7 (by have := NB.out; unfold maxLen; omega)
              obtain ⟨nv, hnv⟩ : ∃ nv, nv = ((lparts l m.comps 16).take k).length + 1 := ⟨_, rfl⟩
              rw [← hnv] at hv7
              have HNV := Lib.hid hnv
              clear hnv
              subst hv7
              clear o7 g7 b7 h6 B6 P6 P BB
              have P := PP
              clear PP
              go_simp
              apply Rel.every_one 9 (by kernel_rfl) (by rfl) (by rfl)
              intro W8 h8
              go_simp
              apply Rel.gives_value
              refine ⟨KeepBut.refl _ _, ?_⟩
              have PP := Lib.hid (And.intro (P.out.1.keep hblt h8) (P.out.2.keep h8))
              clear h8 P
              have P := PP
              clear PP
              go_simp
              apply Rel.every_one 10 (by kernel_rfl) (by rfl) (by rfl)
              intro W8 h8
              go_simp
              apply Rel.gives_value
              refine ⟨KeepBut.refl _ _, ?_⟩
              have PP := Lib.hid (And.intro (P.out.1.keep hblt h8) (P.out.2.keep h8))
              clear h8 P
              have P := PP
              clear PP
              go_simp
              apply Rel.every_one 11 (by kernel_rfl) (by rfl) (by rfl)
              intro W8 h8
              go_simp
              apply Rel.gives_value
              refine ⟨KeepBut.refl _ _, ?_⟩
              have PP := Lib.hid (And.intro (P.out.1.keep hblt h8) (P.out.2.keep h8))
              clear h8 P
              have P := PP
              clear PP
              go_simp
              apply Rel.every_one 12 (by kernel_rfl) (by rfl) (by rfl)
              intro W9 h9
              have P9 := And.intro (P.out.1.keep hblt h9) (P.out.2.keep h9)
              have cx := P9.1.box.cells
              have fx := P9.1.box.thawed
              go_simp
              apply Rel.gives_skip
              refine ⟨KeepBut.setAt (S := fun z => z = b ∨ psv.ownBlock = some z ∨ Wf.heap.size ≤ z) (.inl (.inl rfl)) (KeepBut.refl _ _) _, ?_⟩
              have PP := Lib.hid (And.intro (P9.1.store hblt 9 (.slice pw nv cw) (X' := #[vc, vi, vs, vg, .string m.start.comp, .string m.start.from_, .string m.start.name, vl, .int .u32 size, .slice pw nv cw, .slice none 0 0, is, st, ad, bs]) rfl) (P9.2.other (a := ⟨b, 9, none⟩) (by simp; omega) (.slice pw nv cw)))
              clear h9 cx fx P9 P
              have P := PP
              clear PP
              go_simp
              refine Rel.every_end (by kernel_rfl) ?_
              intro WA hA
              have PP := Lib.hid (And.intro (P.out.1.keep hblt hA) (P.out.2.keep hA))
              clear hA P
              have P := PP
              clear PP
              have hlt := HLT.out
              have hk8 := HPH.out.comps
              have hki2 : (k : Int) < (m.comps.length : Int) := by omega
              go_wp2_with fail
              go_roundw
              case rel =>
                refine ⟨k + 1, .slice pw nv cw, ves ++ [.slice pv ne cv], HLT.out, by go_num, ?_, ?_⟩
                · rw [HSN.out, HLP.out.1]
                  exact P.out.1
                · rw [HLN.out, HLP.out.2]
                  exact P.out.2
              case measure => simp [intOf]; omega
            · intro W1 h1
              go_simp
              apply Rel.gives_value
              refine ⟨((Keep.refl _).alloc _).but _, ?_⟩
              have PP := Lib.hid (P.out.keep (h1.alloc (.cells #[.string cn, .int .u32 nx, .int .u32 fc, .int .u32 (nx + fc), .int .u32 n2, .int .u32 (nx + fc + n2), .int .u32 cs, .slice pv ne cv] 83)))
              have BB := Lib.hid (Box.new W1 #[.string cn, .int .u32 nx, .int .u32 fc, .int .u32 (nx + fc), .int .u32 n2, .int .u32 (nx + fc + n2), .int .u32 cs, .slice pv ne cv] 83)
              obtain ⟨gb, hgb⟩ : ∃ gb, gb = W1.heap.size := ⟨_, rfl⟩
              rw [← hgb] at BB ⊢
              obtain ⟨WB, hWB⟩ : ∃ WB, WB = W1.alloc (.cells #[.string cn, .int .u32 nx, .int .u32 fc, .int .u32 (nx + fc), .int .u32 n2, .int .u32 (nx + fc + n2), .int .u32 cs, .slice pv ne cv] 83) := ⟨_, rfl⟩
              rw [← hWB] at PP BB ⊢
              clear hWB hgb h1 P
              have P := PP
              clear PP
              go_simp
              apply Rel.every_one 5 (by kernel_rfl) (by rfl) (by rfl)
              intro W1 h1
              have PP := Lib.hid (P.out.keep h1)
              have cx := PP.out.box.cells
              go_simp
              apply Rel.gives_value
              refine ⟨KeepBut.refl _ _, ?_⟩
              replace BB := Lib.hid (BB.out.keep h1)
              clear h1 cx P
              have P := PP
              clear PP
              go_simp
              apply Rel.every_one 8 (by kernel_rfl) (by rfl) (by rfl)
              intro W6 h6
              have P6 := Lib.hid (P.out.keep h6)
              have B6 := BB.out.keep h6
              refine gives_append_src W6 (.tmp 70) (.tmp 72) 35 35 rfl (w.heap.size + 1) 83 i8 _ 8 64 Tryz.underlying35 hi8 hz8 hs8 hb8 rfl _ _ _ rfl P6.out.own (.slice (some ⟨gb, 0, none⟩) 1 1) 1 (partRow (⟨cn, ⟨nx, fc⟩, ⟨nx + fc, n2⟩, ⟨nx + fc + n2, cs⟩, es⟩, .slice pv ne cv)) rfl (Src.ofSlice W6 Tryz.underlying35 _ 1 1 _ rfl (fun j u hj => by rw [show (⟨gb, 0, none⟩ : Addr).add j = ⟨gb, j, none⟩ by unfold Addr.add; split <;> simp_all, B6.cells, ← Array.getElem?_toList]; exact hj) (by intro u hu; simp [partRow] at hu; rcases hu with rfl | rfl | rfl | rfl | rfl | rfl | rfl | rfl <;> rfl)) (by have := NB.out; unfold maxLen; omega) (by have := NB.out; omega) (by have := P6.out.but.size; have := P6.out.nxt.lt; omega) ?_
              intro v7 V7 o7 g7 b7
              refine ⟨grown_but g7 _ (fun g hg => .inr (.inl hg)), ?_⟩
              have PP := Lib.hid (P6.out.push hblt o7 g7 b7)
              obtain ⟨pw, cw, hv7, _, _, _⟩ := owns_cells o7 (by have := NB.out; unfold maxLen; omega)
              obtain ⟨nv, hnv⟩ : ∃ nv, nv = ((lparts l m.comps 16).take k).length + 1 := ⟨_, rfl⟩
              rw [← hnv] at hv7
              have HNV := Lib.hid hnv
              clear hnv
              subst hv7
              clear o7 g7 b7 h6 B6 P6 P BB
              have P := PP
              clear PP
              go_simp
              apply Rel.every_one 9 (by kernel_rfl) (by rfl) (by rfl)
              intro W8 h8
              go_simp
              apply Rel.gives_value
              refine ⟨KeepBut.refl _ _, ?_⟩
              have PP := Lib.hid (And.intro (P.out.1.keep hblt h8) (P.out.2.keep h8))
              clear h8 P
              have P := PP
              clear PP
              go_simp
              apply Rel.every_one 10 (by kernel_rfl) (by rfl) (by rfl)
              intro W8 h8
              go_simp
              apply Rel.gives_value
              refine ⟨KeepBut.refl _ _, ?_⟩
              have PP := Lib.hid (And.intro (P.out.1.keep hblt h8) (P.out.2.keep h8))
              clear h8 P
              have P := PP
              clear PP
              go_simp
              apply Rel.every_one 11 (by kernel_rfl) (by rfl) (by rfl)
              intro W8 h8
              go_simp
              apply Rel.gives_value
              refine ⟨KeepBut.refl _ _, ?_⟩
              have PP := Lib.hid (And.intro (P.out.1.keep hblt h8) (P.out.2.keep h8))
              clear h8 P
              have P := PP
              clear PP
              go_simp
              apply Rel.every_one 12 (by kernel_rfl) (by rfl) (by rfl)
              intro W9 h9
              have P9 := And.intro (P.out.1.keep hblt h9) (P.out.2.keep h9)
              have cx := P9.1.box.cells
              have fx := P9.1.box.thawed
              go_simp
              apply Rel.gives_skip
              refine ⟨KeepBut.setAt (S := fun z => z = b ∨ psv.ownBlock = some z ∨ Wf.heap.size ≤ z) (.inl (.inl rfl)) (KeepBut.refl _ _) _, ?_⟩
              have PP := Lib.hid (And.intro (P9.1.store hblt 9 (.slice pw nv cw) (X' := #[vc, vi, vs, vg, .string m.start.comp, .string m.start.from_, .string m.start.name, vl, .int .u32 size, .slice pw nv cw, .slice none 0 0, is, st, ad, bs]) rfl) (P9.2.other (a := ⟨b, 9, none⟩) (by simp; omega) (.slice pw nv cw)))
              clear h9 cx fx P9 P
              have P := PP
              clear PP
              go_simp
              refine Rel.every_end (by kernel_rfl) ?_
              intro WA hA
              have PP := Lib.hid (And.intro (P.out.1.keep hblt hA) (P.out.2.keep hA))
              clear hA P
              have P := PP
              clear PP
              have hlt := HLT.out
              have hk8 := HPH.out.comps
              have hki2 : (k : Int) < (m.comps.length : Int) := by omega
              go_wp2_with fail
              go_roundw
              case rel =>
                refine ⟨k + 1, .slice pw nv cw, ves ++ [.slice pv ne cv], HLT.out, by go_num, ?_, ?_⟩
                · rw [HSN.out, HLP.out.1]
                  exact P.out.1
                · rw [HLN.out, HLP.out.2]
                  exact P.out.2
              case measure => simp [intOf]; omega
    · obtain rfl : k = m.comps.length := by omega
      have hlp : (lparts l m.comps 16).take m.comps.length = lparts l m.comps 16 := List.take_of_length_le (by rw [lparts_len]; exact Nat.le_refl _)
      rw [hlp] at hS
      rw [List.take_length] at hN
      obtain ⟨W3, hW3⟩ : ∃ x, x = wq := ⟨_, rfl⟩
      subst hW3
      have HS := Lib.hid hS
      have HN := Lib.hid hN
      have h3lt : w.heap.size < W3.heap.size := hN.lt
      have Kw : Hid (Keep w0 W3) := Lib.hid (HK0.out.butNew HS.out.but (fun x hx => by rw [hx]; exact hb0))
      have cb := HS.out.box.cells
      rw [hvq] at cb
      obtain ⟨nx, hnx⟩ : ∃ nx, nx = lend l m.comps 16 := ⟨_, rfl⟩
      have HNX := Lib.hid hnx
      have hki : ¬ ((m.comps.length : Int) < (m.comps.length : Int)) := by omega
      have hs8' := HPH.out.shrs
      obtain ⟨i8, hi8, hz8, hs8, hb8⟩ := oinfo_parts infoSpan
      clear hS hN hlp hnx
      go_wp2_with fail
      go_loopw [84] (fun i wr => ∃ (j : Nat) (ssv : Value), j ≤ m.shrs.length ∧ i = .int .i64 (j : Int) ∧ RT w W3 b (#[vc, vi, vs, vg, .string m.start.comp, .string m.start.from_, .string m.start.name, vl, .int .u32 size, psv, ssv, is, st, ad, bs]) ssv j (spanRows ((lshares m.shrs nx).take j)) (lendS (m.shrs.take j) nx) wr) (fun i _ => m.shrs.length - (intOf i).toNat)
      case atStart => exact ⟨0, .slice none 0 0, Nat.zero_le _, rfl, KeepBut.refl _ _, HS.out.box, by rw [HNX.out]; exact HN.out, ⟨rfl, .inl ⟨rfl, rfl⟩⟩⟩
      case round =>
        obtain ⟨j, ssv, hj, rfl, hT⟩ := hrel
        obtain ⟨wq, hwq⟩ : ∃ x, x = wr := ⟨_, rfl⟩
        subst hwq
        have HT := Lib.hid hT
        clear hT cb
        by_cases hjl : j < m.shrs.length
        · obtain ⟨sc, hsc⟩ : ∃ sc, m.shrs[j]? = some sc := ⟨_, List.getElem?_eq_getElem hjl⟩
          obtain ⟨b1, off1, hpq, hb1, hx1⟩ := HCQ.out.resolve_left (fun e => by rw [e] at hsc; simp at hsc)
          obtain ⟨d0, d1⟩ := hx1 j sc hsc
          have KwQ : Hid (Keep w0 wq) := Lib.hid (Kw.out.butNew HT.out.but (fun x hx => by
            have := HK0.out.size
            rcases hx with e | e <;> omega))
          replace d0 := KwQ.out.cellOf d0
          replace d1 := KwQ.out.cellOf d1
          subst hpq
          have hsm : sc ∈ m.shrs := List.mem_of_getElem? hsc
          obtain ⟨cs0, cs1⟩ := HPH.out.shr sc hsm
          have HTS0 := lshares_snoc (a := nx) hsc
          have HLS0 := lendS_next (a := nx) hsc
          have bds := lendS_k HPH.out j
          rw [← HNX.out] at bds
          obtain ⟨ny, hny⟩ : ∃ ny, ny = lendS (m.shrs.take j) nx := ⟨_, rfl⟩
          obtain ⟨cs, hcs⟩ : ∃ cs, cs = sc.stack := ⟨_, rfl⟩
          obtain ⟨sn, hsn⟩ : ∃ sn, sn = sc.name := ⟨_, rfl⟩
          rw [← hny] at HT HTS0 HLS0 bds
          rw [← hcs] at d1 cs0 cs1 HTS0 HLS0
          rw [← hsn] at d0
          have HTS := Lib.hid HTS0
          have HLS := Lib.hid HLS0
          have HJL := Lib.hid hjl
          have hji : (j : Int) < (m.shrs.length : Int) := by omega
          obtain ⟨bd1, bd2⟩ := bds
          obtain ⟨Wg, hWg⟩ : ∃ Wg, Wg = wq.alloc (.cells #[.string sn, .int .u32 cs] 92) := ⟨_, rfl⟩
          have P : Hid (RT w W3 b (#[vc, vi, vs, vg, .string m.start.comp, .string m.start.from_, .string m.start.name, vl, .int .u32 size, psv, ssv, is, st, ad, bs]) ssv j (spanRows ((lshares m.shrs nx).take j)) ny Wg) := Lib.hid (by rw [hWg]; exact HT.out.keep ((Keep.refl _).alloc _))
          have B12 : Hid (Box Wg wq.heap.size #[.string sn, .int .u32 cs]) := Lib.hid (by rw [hWg]; exact Box.new _ _ _)
          have hqs : W3.heap.size ≤ wq.heap.size := HT.out.but.size
          have hqb : ∀ g, ssv.ownBlock = some g → g < wq.heap.size := fun g hg => (World.ownsRow.lt HT.out.own g hg).2
          have hg12 : wq.heap.size < Wg.heap.size := B12.out.lt
          have hn1 : ¬ wq.heap.size = b := by omega
          have hn2 : ¬ wq.heap.size = w.heap.size := by omega
          have hn3 : ssv.ownBlock ≠ some wq.heap.size := fun e => by have := hqb _ e; omega
          clear hx1 hsc hsm HTS0 HLS0 hny hcs hsn hjl hqb
          go_wp2_with fail
          rw [← hWg]
          clear hWg d0 d1
          refine Rel.regionP (KeepBut (fun z => z = b ∨ z = w.heap.size ∨ ssv.ownBlock = some z ∨ Wg.heap.size ≤ z)) (butWay _) [] [0, 1, 2, 3, 4, 6, 7, 8] 8 (by kernel_rfl) (by kernel_rfl) (Keep.refl _) ?_
          repeat (apply Rel.pre_step (by rfl) (by rfl) (by rfl)
                  · intro W' hW'
                    have c12 := (B12.out.but hW' (by rintro (e | e | e | e); exact hn1 e; exact hn2 e; exact hn3 e; omega)).cells
                    go_simp
                    exact ⟨rfl, Keep.refl _⟩
                  go_simp)
          apply Rel.pre_end
          refine Rel.every_two 5 9 (by kernel_rfl) (by rfl) (by rfl) (by rfl) (by rfl) ?_ ?_
          · intro W1 h1
            have PP := Lib.hid (P.out.keep h1)
            have cx := PP.out.box.cells
            go_simp
            apply Rel.gives_value
            refine ⟨KeepBut.refl _ _, ?_⟩
            skip
            clear h1 cx P
            have P := PP
            clear PP
            go_simp
            apply Rel.every_one 9 (by kernel_rfl) (by rfl) (by rfl)
            intro W1 h1
            have P1 := P.out.keep h1
            go_simp
            apply Rel.gives_enter
            first | go_at_fn 70 | go_at_call 70 | skip
            refine (lktake_any w.heap.size ny cs (by omega) (by omega) (by omega) W1 P1.nxt).mono ?_
            rintro e w1 ⟨rfl, hb1, hk1⟩
            refine ⟨_, rfl, hk1.mono (fun _ _ h => .inr (.inl h)), ?_⟩
            have PP := Lib.hid (P1.take hblt h3lt hk1 hb1)
            clear hb1 hk1 h1 P1 P
            have P := PP
            clear PP
            go_simp
            apply Rel.every_one 10 (by kernel_rfl) (by rfl) (by rfl)
            intro W1 h1
            go_simp
            apply Rel.gives_value
            refine ⟨((Keep.refl _).alloc _).but _, ?_⟩
            have PP := Lib.hid (P.out.keep (h1.alloc (.cells #[.int .u32 ny, .int .u32 cs] 80)))
            have BB := Lib.hid (Box.new W1 #[.int .u32 ny, .int .u32 cs] 80)
            obtain ⟨gb, hgb⟩ : ∃ gb, gb = W1.heap.size := ⟨_, rfl⟩
            rw [← hgb] at BB ⊢
            obtain ⟨WB, hWB⟩ : ∃ WB, WB = W1.alloc (.cells #[.int .u32 ny, .int .u32 cs] 80) := ⟨_, rfl⟩
            rw [← hWB] at PP BB ⊢
            clear hWB hgb h1 P
            have P := PP
            clear PP
            go_simp
            apply Rel.every_one 11 (by kernel_rfl) (by rfl) (by rfl)
            intro W6 h6
            have P6 := Lib.hid (P.out.keep h6)
            have B6 := BB.out.keep h6
            refine gives_append_src W6 (.tmp 93) (.tmp 98) 36 36 rfl W3.heap.size 80 i8 _ 2 8 Tryz.underlying36 hi8 hz8 hs8 hb8 rfl _ _ _ rfl P6.out.own (.slice (some ⟨gb, 0, none⟩) 1 1) 1 (spanRow ⟨ny, cs⟩) rfl (Src.ofSlice W6 Tryz.underlying36 _ 1 1 _ rfl (fun j u hj => by rw [show (⟨gb, 0, none⟩ : Addr).add j = ⟨gb, j, none⟩ by unfold Addr.add; split <;> simp_all, B6.cells, ← Array.getElem?_toList]; exact hj) (by intro u hu; simp [spanRow] at hu; rcases hu with rfl | rfl <;> rfl)) (by have := hs8'; unfold maxLen; omega) (by have := hs8'; omega) (by have := P6.out.but.size; omega) ?_
            intro v7 V7 o7 g7 b7
            refine ⟨grown_but g7 _ (fun g hg => .inr (.inr (.inl hg))), ?_⟩
            have o7' : V7.ownsRow W3.heap.size 80 2 v7 (j + 1) (spanRows ((lshares m.shrs nx).take (j + 1))) := by
              rw [HTS.out]
              unfold spanRows
              rw [List.flatMap_append]
              simpa [spanRows] using o7
            have PP := Lib.hid (P6.out.push hblt h3lt o7' g7)
            obtain ⟨pw, cw, hv7, _, _, _⟩ := owns_cells o7' (by have := hs8'; unfold maxLen; omega)
            obtain ⟨nv, hnv⟩ : ∃ nv, nv = j + 1 := ⟨_, rfl⟩
            rw [← hnv] at hv7
            have HNV := Lib.hid hnv
            clear hnv
            subst hv7
            clear o7 o7' g7 b7 h6 B6 P6 P BB
            have P := PP
            clear PP
            go_simp
            apply Rel.every_one 12 (by kernel_rfl) (by rfl) (by rfl)
            intro W8 h8
            go_simp
            apply Rel.gives_value
            refine ⟨KeepBut.refl _ _, ?_⟩
            have PP := Lib.hid (P.out.keep h8)
            clear h8 P
            have P := PP
            clear PP
            go_simp
            apply Rel.every_one 13 (by kernel_rfl) (by rfl) (by rfl)
            intro W8 h8
            go_simp
            apply Rel.gives_value
            refine ⟨KeepBut.refl _ _, ?_⟩
            have PP := Lib.hid (P.out.keep h8)
            clear h8 P
            have P := PP
            clear PP
            go_simp
            apply Rel.every_one 14 (by kernel_rfl) (by rfl) (by rfl)
            intro W8 h8
            go_simp
            apply Rel.gives_value
            refine ⟨KeepBut.refl _ _, ?_⟩
            have PP := Lib.hid (P.out.keep h8)
            clear h8 P
            have P := PP
            clear PP
            go_simp
            apply Rel.every_one 15 (by kernel_rfl) (by rfl) (by rfl)
            intro W9 h9
            have P9 := P.out.keep h9
            have cx := P9.box.cells
            have fx := P9.box.thawed
            go_simp
            apply Rel.gives_skip
            refine ⟨KeepBut.setAt (S := fun z => z = b ∨ z = w.heap.size ∨ ssv.ownBlock = some z ∨ Wg.heap.size ≤ z) (.inl (.inl rfl)) (KeepBut.refl _ _) _, ?_⟩
            have PP := Lib.hid (P9.store hblt h3lt 10 (.slice pw nv cw) (X' := #[vc, vi, vs, vg, .string m.start.comp, .string m.start.from_, .string m.start.name, vl, .int .u32 size, psv, .slice pw nv cw, is, st, ad, bs]) rfl)
            clear h9 cx fx P9 P
            have P := PP
            clear PP
            go_simp
            refine Rel.every_end (by kernel_rfl) ?_
            intro WA hA
            have PP := Lib.hid (P.out.keep hA)
            clear hA P
            have P := PP
            clear PP
            have hjl := HJL.out
            go_wp2_with fail
            go_roundw
            case rel =>
              refine ⟨j + 1, .slice pw nv cw, hjl, by go_num, ?_⟩
              rw [HLS.out]
              exact P.out
            case measure => simp [intOf]; omega
          · intro W1 h1
            have P1 := P.out.keep h1
            go_simp
            apply Rel.gives_enter
            first | go_at_fn 70 | go_at_call 70 | skip
            refine (lktake_any w.heap.size ny cs (by omega) (by omega) (by omega) W1 P1.nxt).mono ?_
            rintro e w1 ⟨rfl, hb1, hk1⟩
            refine ⟨_, rfl, hk1.mono (fun _ _ h => .inr (.inl h)), ?_⟩
            have PP := Lib.hid (P1.take hblt h3lt hk1 hb1)
            clear hb1 hk1 h1 P1 P
            have P := PP
            clear PP
            go_simp
            refine Rel.every_two 5 10 (by kernel_rfl) (by rfl) (by rfl) (by rfl) (by rfl) ?_ ?_
            · intro W1 h1
              have PP := Lib.hid (P.out.keep h1)
              have cx := PP.out.box.cells
              go_simp
              apply Rel.gives_value
              refine ⟨KeepBut.refl _ _, ?_⟩
              skip
              clear h1 cx P
              have P := PP
              clear PP
              go_simp
              apply Rel.every_one 10 (by kernel_rfl) (by rfl) (by rfl)
              intro W1 h1
              go_simp
              apply Rel.gives_value
              refine ⟨((Keep.refl _).alloc _).but _, ?_⟩
              have PP := Lib.hid (P.out.keep (h1.alloc (.cells #[.int .u32 ny, .int .u32 cs] 80)))
              have BB := Lib.hid (Box.new W1 #[.int .u32 ny, .int .u32 cs] 80)
              obtain ⟨gb, hgb⟩ : ∃ gb, gb = W1.heap.size := ⟨_, rfl⟩
              rw [← hgb] at BB ⊢
              obtain ⟨WB, hWB⟩ : ∃ WB, WB = W1.alloc (.cells #[.int .u32 ny, .int .u32 cs] 80) := ⟨_, rfl⟩
              rw [← hWB] at PP BB ⊢
              clear hWB hgb h1 P
              have P := PP
              clear PP
              go_simp
              apply Rel.every_one 11 (by kernel_rfl) (by rfl) (by rfl)
              intro W6 h6
              have P6 := Lib.hid (P.out.keep h6)
              have B6 := BB.out.keep h6
              refine gives_append_src W6 (.tmp 93) (.tmp 98) 36 36 rfl W3.heap.size 80 i8 _ 2 8 Tryz.underlying36 hi8 hz8 hs8 hb8 rfl _ _ _ rfl P6.out.own (.slice (some ⟨gb, 0, none⟩) 1 1) 1 (spanRow ⟨ny, cs⟩) rfl (Src.ofSlice W6 Tryz.underlying36 _ 1 1 _ rfl (fun j u hj => by rw [show (⟨gb, 0, none⟩ : Addr).add j = ⟨gb, j, none⟩ by unfold Addr.add; split <;> simp_all, B6.cells, ← Array.getElem?_toList]; exact hj) (by intro u hu; simp [spanRow] at hu; rcases hu with rfl | rfl <;> rfl)) (by have := hs8'; unfold maxLen; omega) (by have := hs8'; omega) (by have := P6.out.but.size; omega) ?_
              intro v7 V7 o7 g7 b7
              refine ⟨grown_but g7 _ (fun g hg => .inr (.inr (.inl hg))), ?_⟩
              have o7' : V7.ownsRow W3.heap.size 80 2 v7 (j + 1) (spanRows ((lshares m.shrs nx).take (j + 1))) := by
                rw [HTS.out]
                unfold spanRows
                rw [List.flatMap_append]
                simpa [spanRows] using o7
              have PP := Lib.hid (P6.out.push hblt h3lt o7' g7)
              obtain ⟨pw, cw, hv7, _, _, _⟩ := owns_cells o7' (by have := hs8'; unfold maxLen; omega)
              obtain ⟨nv, hnv⟩ : ∃ nv, nv = j + 1 := ⟨_, rfl⟩
              rw [← hnv] at hv7
              have HNV := Lib.hid hnv
              clear hnv
              subst hv7
              clear o7 o7' g7 b7 h6 B6 P6 P BB
              have P := PP
              clear PP
              go_simp
              apply Rel.every_one 12 (by kernel_rfl) (by rfl) (by rfl)
              intro W8 h8
              go_simp
              apply Rel.gives_value
              refine ⟨KeepBut.refl _ _, ?_⟩
              have PP := Lib.hid (P.out.keep h8)
              clear h8 P
              have P := PP
              clear PP
              go_simp
              apply Rel.every_one 13 (by kernel_rfl) (by rfl) (by rfl)
              intro W8 h8
              go_simp
              apply Rel.gives_value
              refine ⟨KeepBut.refl _ _, ?_⟩
              have PP := Lib.hid (P.out.keep h8)
              clear h8 P
              have P := PP
              clear PP
              go_simp
              apply Rel.every_one 14 (by kernel_rfl) (by rfl) (by rfl)
              intro W8 h8
              go_simp
              apply Rel.gives_value
              refine ⟨KeepBut.refl _ _, ?_⟩
              have PP := Lib.hid (P.out.keep h8)
              clear h8 P
              have P := PP
              clear PP
              go_simp
              apply Rel.every_one 15 (by kernel_rfl) (by rfl) (by rfl)
              intro W9 h9
              have P9 := P.out.keep h9
              have cx := P9.box.cells
              have fx := P9.box.thawed
              go_simp
              apply Rel.gives_skip
              refine ⟨KeepBut.setAt (S := fun z => z = b ∨ z = w.heap.size ∨ ssv.ownBlock = some z ∨ Wg.heap.size ≤ z) (.inl (.inl rfl)) (KeepBut.refl _ _) _, ?_⟩
              have PP := Lib.hid (P9.store hblt h3lt 10 (.slice pw nv cw) (X' := #[vc, vi, vs, vg, .string m.start.comp, .string m.start.from_, .string m.start.name, vl, .int .u32 size, psv, .slice pw nv cw, is, st, ad, bs]) rfl)
              clear h9 cx fx P9 P
              have P := PP
              clear PP
              go_simp
              refine Rel.every_end (by kernel_rfl) ?_
              intro WA hA
              have PP := Lib.hid (P.out.keep hA)
              clear hA P
              have P := PP
              clear PP
              have hjl := HJL.out
              go_wp2_with fail
              go_roundw
              case rel =>
                refine ⟨j + 1, .slice pw nv cw, hjl, by go_num, ?_⟩
                rw [HLS.out]
                exact P.out
              case measure => simp [intOf]; omega
            · intro W1 h1
              go_simp
              apply Rel.gives_value
              refine ⟨((Keep.refl _).alloc _).but _, ?_⟩
              have PP := Lib.hid (P.out.keep (h1.alloc (.cells #[.int .u32 ny, .int .u32 cs] 80)))
              have BB := Lib.hid (Box.new W1 #[.int .u32 ny, .int .u32 cs] 80)
              obtain ⟨gb, hgb⟩ : ∃ gb, gb = W1.heap.size := ⟨_, rfl⟩
              rw [← hgb] at BB ⊢
              obtain ⟨WB, hWB⟩ : ∃ WB, WB = W1.alloc (.cells #[.int .u32 ny, .int .u32 cs] 80) := ⟨_, rfl⟩
              rw [← hWB] at PP BB ⊢
              clear hWB hgb h1 P
              have P := PP
              clear PP
              go_simp
              apply Rel.every_one 5 (by kernel_rfl) (by rfl) (by rfl)
              intro W1 h1
              have PP := Lib.hid (P.out.keep h1)
              have cx := PP.out.box.cells
              go_simp
              apply Rel.gives_value
              refine ⟨KeepBut.refl _ _, ?_⟩
              replace BB := Lib.hid (BB.out.keep h1)
              clear h1 cx P
              have P := PP
              clear PP
              go_simp
              apply Rel.every_one 11 (by kernel_rfl) (by rfl) (by rfl)
              intro W6 h6
              have P6 := Lib.hid (P.out.keep h6)
              have B6 := BB.out.keep h6
              refine gives_append_src W6 (.tmp 93) (.tmp 98) 36 36 rfl W3.heap.size 80 i8 _ 2 8 Tryz.underlying36 hi8 hz8 hs8 hb8 rfl _ _ _ rfl P6.out.own (.slice (some ⟨gb, 0, none⟩) 1 1) 1 (spanRow ⟨ny, cs⟩) rfl (Src.ofSlice W6 Tryz.underlying36 _ 1 1 _ rfl (fun j u hj => by rw [show (⟨gb, 0, none⟩ : Addr).add j = ⟨gb, j, none⟩ by unfold Addr.add; split <;> simp_all, B6.cells, ← Array.getElem?_toList]; exact hj) (by intro u hu; simp [spanRow] at hu; rcases hu with rfl | rfl <;> rfl)) (by have := hs8'; unfold maxLen; omega) (by have := hs8'; omega) (by have := P6.out.but.size; omega) ?_
              intro v7 V7 o7 g7 b7
              refine ⟨grown_but g7 _ (fun g hg => .inr (.inr (.inl hg))), ?_⟩
              have o7' : V7.ownsRow W3.heap.size 80 2 v7 (j + 1) (spanRows ((lshares m.shrs nx).take (j + 1))) := by
                rw [HTS.out]
                unfold spanRows
                rw [List.flatMap_append]
                simpa [spanRows] using o7
              have PP := Lib.hid (P6.out.push hblt h3lt o7' g7)
              obtain ⟨pw, cw, hv7, _, _, _⟩ := owns_cells o7' (by have := hs8'; unfold maxLen; omega)
              obtain ⟨nv, hnv⟩ : ∃ nv, nv = j + 1 := ⟨_, rfl⟩
              rw [← hnv] at hv7
              have HNV := Lib.hid hnv
              clear hnv
              subst hv7
              clear o7 o7' g7 b7 h6 B6 P6 P BB
              have P := PP
              clear PP
              go_simp
              apply Rel.every_one 12 (by kernel_rfl) (by rfl) (by rfl)
              intro W8 h8
              go_simp
              apply Rel.gives_value
              refine ⟨KeepBut.refl _ _, ?_⟩
              have PP := Lib.hid (P.out.keep h8)
              clear h8 P
              have P := PP
              clear PP
              go_simp
              apply Rel.every_one 13 (by kernel_rfl) (by rfl) (by rfl)
              intro W8 h8
              go_simp
              apply Rel.gives_value
              refine ⟨KeepBut.refl _ _, ?_⟩
              have PP := Lib.hid (P.out.keep h8)
              clear h8 P
              have P := PP
              clear PP
              go_simp
              apply Rel.every_one 14 (by kernel_rfl) (by rfl) (by rfl)
              intro W8 h8
              go_simp
              apply Rel.gives_value
              refine ⟨KeepBut.refl _ _, ?_⟩
              have PP := Lib.hid (P.out.keep h8)
              clear h8 P
              have P := PP
              clear PP
              go_simp
              apply Rel.every_one 15 (by kernel_rfl) (by rfl) (by rfl)
              intro W9 h9
              have P9 := P.out.keep h9
              have cx := P9.box.cells
              have fx := P9.box.thawed
              go_simp
              apply Rel.gives_skip
              refine ⟨KeepBut.setAt (S := fun z => z = b ∨ z = w.heap.size ∨ ssv.ownBlock = some z ∨ Wg.heap.size ≤ z) (.inl (.inl rfl)) (KeepBut.refl _ _) _, ?_⟩
              have PP := Lib.hid (P9.store hblt h3lt 10 (.slice pw nv cw) (X' := #[vc, vi, vs, vg, .string m.start.comp, .string m.start.from_, .string m.start.name, vl, .int .u32 size, psv, .slice pw nv cw, is, st, ad, bs]) rfl)
              clear h9 cx fx P9 P
              have P := PP
              clear PP
              go_simp
              refine Rel.every_end (by kernel_rfl) ?_
              intro WA hA
              have PP := Lib.hid (P.out.keep hA)
              clear hA P
              have P := PP
              clear PP
              have hjl := HJL.out
              go_wp2_with fail
              go_roundw
              case rel =>
                refine ⟨j + 1, .slice pw nv cw, hjl, by go_num, ?_⟩
                rw [HLS.out]
                exact P.out
              case measure => simp [intOf]; omega
        · obtain rfl : j = m.shrs.length := by omega
          have hT2 := HT.out
          have hls : (lshares m.shrs nx).take m.shrs.length = lshares m.shrs nx := List.take_of_length_le (by rw [lshares_len]; exact Nat.le_refl _)
          rw [hls, List.take_length] at hT2
          have bds := lendS_k HPH.out m.shrs.length
          rw [← HNX.out, List.take_length] at bds
          obtain ⟨bd1, bd2⟩ := bds
          obtain ⟨ny, hny⟩ : ∃ ny, ny = lendS m.shrs nx := ⟨_, rfl⟩
          rw [← hny] at hT2 bd1 bd2
          have HW : Hid (lwant m l = ny) := Lib.hid (by unfold lwant; rw [hny, HNX.out])
          have HTT := Lib.hid hT2
          have BX := Lib.hid hT2.box
          have BNN := Lib.hid hT2.nxt
          obtain ⟨E, hE⟩ : ∃ E, E = roomE size ny := ⟨_, rfl⟩
          have CR : Hid (∀ W, Calls Tryz.prog 74 #[.int .u32 size, .int .u32 ny] W fun e w' => e = .returned (.int .i64 E) ∧ W = w') := Lib.hid (fun W => by rw [hE]; exact lkroom_any size ny HSZ.out W)
          have CFa := Lib.hid (fun W => lkfault_any sizeT ny (errO sizeT ny E) (errnoV E) W (WV.errno W sizeT ny E))
          unfold errnoV at CFa
          have HEE := Lib.hid hE
          have hji : ¬ ((m.shrs.length : Int) < (m.shrs.length : Int)) := by omega
          have wri : IntKind.i64.wrap ny = ny := by rw [IntKind.wrap_i64]; omega
          clear hT2 hls hny hE HT
          go_wp2_with fail
          refine region_grows_tail 10 (Keep wq) (by kernel_rfl) (by kernel_rfl) (Keep.refl _).drew ?_
          simp only [List.take_succ_cons, List.take_zero, List.drop_succ_cons, List.drop_zero]
          repeat (first
            | (apply text_pass (by rfl); go_simp)
            | (apply text_step (by rfl)
               · intro W hW
                 have cb := (BX.out.keep hW).cells
                 have cn := (BNN.out.keep hW).cells
                 go_simp
                 first
                   | (apply yes_enter; go_at_call 74; refine (CR.out _).mono ?_; rintro e w' ⟨rfl, rfl⟩; exact ⟨rfl, hW⟩)
                   | exact ⟨rfl, hW⟩
               go_simp))
          apply text_end
          intro W8 hW8
          have K8 := Lib.hid hW8
          clear hW8
          go_wp2_with fail
          refine (CFa.out W8).mono ?_
          rintro e w9 ⟨u, rfl, hu, hk9⟩
          have HU := Lib.hid hu
          have K9 := Lib.hid (K8.out.trans hk9)
          clear hu hk9
          go_wp2_with fail
          go_ret
          have KB : KeepBut (fun z => z = b ∨ z = w.heap.size) W3 w9 := HTT.out.but.trans (K9.out.but _)
          have hsz9 : W3.heap.size ≤ w9.heap.size := KB.size
          have hA : ∀ g, w.heap.size + 1 ≤ g → g < W3.heap.size → ¬ (g = b ∨ g = w.heap.size) := fun g h1 h2 => by omega
          refine ⟨u, psv, ssv, ves, rfl, by rw [HW.out, ← HEE.out]; exact HU.out, ⟨?_, HTT.out.box.keep K9.out, ?_, HS.out.ent.len, ?_, ?_⟩⟩
          · have a : KeepBut (fun z => z = b ∨ w.heap.size ≤ z) w W3 := HS.out.but.mono (fun _ _ e => .inl e)
            have c : KeepBut (fun z => z = b ∨ w.heap.size ≤ z) W3 w9 := KB.mono (fun z _ e => e.imp id (fun e => by omega))
            exact (a.trans c).mono (fun z hz e => e.resolve_right (by omega))
          · exact ((owns_rowOf HS.out.own (by rw [lparts_len]; have := HPH.out.comps; unfold maxLen; omega)).but KB hA).wide (Nat.le_refl _) hsz9
          · intro j p v hp hv
            obtain ⟨ow, _⟩ := HS.out.ent.row j p v hp hv
            exact ((owns_rowOf ow (by
              have hj : j < m.comps.length := by
                have := (List.getElem?_eq_some_iff.1 hp).1
                rwa [lparts_len] at this
              have e := lparts_at (l := l) m.comps 16 j hj
              rw [hp] at e
              cases e
              show ((placesL _).map _).length ≤ maxLen
              have := HPH.out.few _ (List.getElem_mem hj)
              rw [List.length_map]
              unfold maxLen
              omega)).but KB hA).wide (Nat.le_refl _) hsz9
          · have o2 := HTT.out.own
            rw [← lshares_len m.shrs nx] at o2
            rw [← HNX.out]
            exact ((owns_rowOf o2 (by rw [lshares_len]; unfold maxLen; omega)).but (K9.out.but (fun _ => False)) (fun _ _ _ h => h)).wide (by omega) K9.out.size
end Go.Proofs.YtbmjnfnekmeegaaGreatDoor
