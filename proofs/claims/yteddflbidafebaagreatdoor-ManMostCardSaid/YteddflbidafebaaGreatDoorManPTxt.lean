/- The program's decimal of less than a hundred, Text. -/
import Derived.Test.YteddflbidafebaaGreatDoorManPBld
import Derived.Test.YteddflbidafebaaGreatDoorManC
namespace Go.Proofs.YteddflbidafebaaGreatDoor
set_option linter.unusedVariables false
set_option linter.unusedSimpArgs false
open Go.RowKit
theorem digs_small {n : Nat} (h : n < 100) : Lib.decDigits n = digsL n := by
  have e : Lib.decDigits n = if n < 10 then [UInt8.ofNat (48 + n)] else Lib.decDigits (n / 10) ++ [UInt8.ofNat (48 + n % 10)] := by
    rw [Lib.decDigits]; split <;> rfl
  by_cases h1 : n < 10
  · rw [e, if_pos h1]
    unfold digsL decF
    rw [if_pos h1]
  · have h2 : n / 10 < 10 := by omega
    have e2 : Lib.decDigits (n / 10) = [UInt8.ofNat (48 + n / 10)] := by
      rw [Lib.decDigits, dif_pos h2]
    rw [e, if_neg h1, e2]
    unfold digsL decF
    rw [if_neg h1]
    unfold decF
    rw [if_pos h2]
set_option maxHeartbeats 8000000 in
set_option maxRecDepth 100000 in
theorem mdecimal_any (z : Int) (h0 : 0 ≤ z) (h1 : z < 100) (w : World) : Calls Tryz.prog 20 #[.int .u32 z] w fun e w' => e = .returned (.string (bsL (digsL z.toNat))) ∧ w = w' := by
  obtain ⟨n, rfl⟩ : ∃ n : Nat, z = n := ⟨z.toNat, by omega⟩
  have hn : n < 100 := by omega
  rw [show ((n : Int)).toNat = n from rfl, ← digs_small hn]
  have C := Lib.hid (fun W => Tryz.internal_strconv_small n hn W)
  have w1 : IntKind.u64.wrap (n : Int) = (n : Int) := by rw [IntKind.wrap_u64]; omega
  have w2 : IntKind.i64.wrap (n : Int) = (n : Int) := by rw [IntKind.wrap_i64]; omega
  have C1 : Hid (∀ W, Calls Tryz.prog 63 #[.int .u64 (n : Int), .int .i64 10] W fun e w' => e = .returned (.string (bsL (Lib.decDigits n))) ∧ W = w') := Lib.hid (by
    intro W
    go_enter Tryz.func63, Tryz.ntmps63
    go_wp2_with fail
    refine (C.out _).mono ?_
    rintro e w' ⟨rfl, rfl⟩
    go_wp2_with fail
    go_ret
    exact ⟨rfl, rfl⟩)
  have C2 : Hid (∀ W, Calls Tryz.prog 38 #[.int .u64 (n : Int), .int .i64 10] W fun e w' => e = .returned (.string (bsL (Lib.decDigits n))) ∧ W = w') := Lib.hid (by
    intro W
    go_enter Tryz.func38, Tryz.ntmps38
    go_wp2_with fail
    refine (C1.out _).mono ?_
    rintro e w' ⟨rfl, rfl⟩
    go_wp2_with fail
    go_ret
    exact ⟨rfl, rfl⟩)
  go_enter Tryz.func20, Tryz.ntmps20
  go_wp2_with fail
  refine (C2.out _).mono ?_
  rintro e w' ⟨rfl, rfl⟩
  go_wp2_with fail
  go_ret
  exact ⟨rfl, rfl⟩
def cLine (c : CompV) : List UInt8 := compT.data.toList ++ 32 :: (c.name.data.toList ++ 32 :: (digsL c.stack.toNat ++ [10]))
def iLine (x : ImpV) : List UInt8 := importT.data.toList ++ 32 :: (x.comp.data.toList ++ 32 :: (x.from_.data.toList ++ 32 :: (x.name.data.toList ++ [10])))
def sLine (c : CompV) : List UInt8 := shareT.data.toList ++ 32 :: (c.name.data.toList ++ 32 :: (digsL c.stack.toNat ++ [10]))
def gLine (x : GrnV) : List UInt8 := grantT.data.toList ++ 32 :: (x.comp.data.toList ++ 32 :: (x.share.data.toList ++ 32 :: (permT x.perm ++ [10])))
def stLine (m : ManV) : List UInt8 := mstartT.data.toList ++ 32 :: (m.start.from_.data.toList ++ 32 :: (m.start.name.data.toList ++ [10]))
theorem manT_lines (m : ManV) : manT m = m.comps.flatMap cLine ++ (m.imps.flatMap iLine ++ (m.shrs.flatMap sLine ++ (m.grns.flatMap gLine ++ stLine m))) := rfl
theorem line3 (a b c : ByteArray) : lineT [a, b, c] = a.data.toList ++ 32 :: (b.data.toList ++ 32 :: (c.data.toList ++ [10])) := by
  simp [lineT, Lib.join, List.intercalate, List.intersperse]
theorem line4 (a b c d : ByteArray) : lineT [a, b, c, d] = a.data.toList ++ 32 :: (b.data.toList ++ 32 :: (c.data.toList ++ 32 :: (d.data.toList ++ [10]))) := by
  simp [lineT, Lib.join, List.intercalate, List.intersperse]
theorem cLine_is (c : CompV) : lineT [compT, c.name, bsL (digsL c.stack.toNat)] = cLine c := by rw [line3]; rfl
theorem sLine_is (c : CompV) : lineT [shareT, c.name, bsL (digsL c.stack.toNat)] = sLine c := by rw [line3]; rfl
theorem iLine_is (x : ImpV) : lineT [importT, x.comp, x.from_, x.name] = iLine x := by rw [line4]; rfl
theorem gLine_is {x : GrnV} (h0 : 0 ≤ x.perm) (h : ¬ (x.perm = 0 ∨ 3 < x.perm)) : lineT [grantT, x.comp, x.share, permS x.perm] = gLine x := by
  rw [line4]
  unfold gLine
  rcases (by omega : x.perm = 1 ∨ x.perm = 2 ∨ x.perm = 3) with e | e | e <;> rw [e] <;> rfl
theorem stLine_is (m : ManV) : lineT [mstartT, m.start.from_, m.start.name] = stLine m := by rw [line3]; rfl
theorem take_line {α : Type} {f : α → List UInt8} {l : List α} {k : Nat} {x : α} (h : l[k]? = some x) : (l.take (k + 1)).flatMap f = (l.take k).flatMap f ++ f x := by
  rw [List.take_add_one, h]; simp
theorem line_le {α : Type} {f : α → List UInt8} {l : List α} {k : Nat} {x : α} (h : l[k]? = some x) : ((l.take k).flatMap f).length + (f x).length ≤ (l.flatMap f).length := by
  have e := congrArg List.length (take_line (f := f) h)
  rw [List.length_append] at e
  have e2 : l.flatMap f = (l.take (k + 1)).flatMap f ++ (l.drop (k + 1)).flatMap f := by rw [← List.flatMap_append, List.take_append_drop]
  have e3 := congrArg List.length e2
  rw [List.length_append] at e3
  omega
theorem grns_ok {m : ManV} (h : manW m = okW) : ∀ (k : Nat) (x : GrnV), m.grns[k]? = some x → ¬ (x.perm = 0 ∨ 3 < x.perm) := by
  intro k x hx hp
  have hk := (List.getElem?_eq_some_iff.1 hx).1
  have hz : firstE (grnE m) m.grns.length 0 = none := by
    unfold manW at h
    by_cases h1 : m.comps.length = 0
    · rw [if_pos h1] at h; cases h
    rw [if_neg h1] at h
    by_cases h2 : m.comps.length > 8
    · rw [if_pos h2] at h; cases h
    rw [if_neg h2] at h
    cases h3 : firstE (sizedAt m.comps) m.comps.length 0 with
    | some y => rw [h3] at h; cases h
    | none =>
    rw [h3] at h
    dsimp only at h
    by_cases h4 : m.imps.length > 64
    · rw [if_pos h4] at h; cases h
    rw [if_neg h4] at h
    cases h5 : firstE (impE m) m.imps.length 0 with
    | some y => rw [h5] at h; cases h
    | none =>
    rw [h5] at h
    dsimp only at h
    by_cases h6 : m.shrs.length > 8
    · rw [if_pos h6] at h; cases h
    rw [if_neg h6] at h
    cases h7 : firstE (sizedAt m.shrs) m.shrs.length 0 with
    | some y => rw [h7] at h; cases h
    | none =>
    rw [h7] at h
    dsimp only at h
    by_cases h8 : m.grns.length > 64
    · rw [if_pos h8] at h; cases h
    rw [if_neg h8] at h
    cases h9 : firstE (grnE m) m.grns.length 0 with
    | some y => rw [h9] at h; cases h
    | none => rfl
  have hall : ∀ (n i : Nat), firstE (grnE m) n i = none → ∀ j, i ≤ j → j < i + n → grnE m j = 0 := by
    intro n
    induction n with
    | zero => intro i _ j h1 h2; omega
    | succ n ih =>
      intro i h j h1 h2
      unfold firstE at h
      by_cases e : grnE m i = 0
      · rw [if_pos e] at h
        by_cases ej : j = i
        · rw [ej]; exact e
        · exact ih (i + 1) h j (by omega) (by omega)
      · rw [if_neg e] at h; cases h
  have e0 := hall _ 0 hz k (by omega) (by omega)
  unfold grnE at e0
  rw [hx] at e0
  dsimp only at e0
  by_cases h1 : (!hasC m.comps x.comp || !hasC m.shrs x.share) = true
  · rw [if_pos h1] at e0; exact absurd e0 (by decide)
  · rw [if_neg h1, if_pos hp] at e0; exact absurd e0 (by decide)
/-- What stands while Text writes: the manifest's box, the builder behind it. -/
structure TxtAt (w W : World) (MB : Array Value) (l : List UInt8) : Prop where
  keep : Keep w W
  size : w.heap.size + 2 ≤ W.heap.size
  man : Box W w.heap.size MB
  bld : ∃ v, BL W (w.heap.size + 1) (w.heap.size + 1) v l
theorem heap_new (w : World) (o : Obj) : (w.alloc o).heap[w.heap.size]? = some o := by
  show (w.heap.push o)[w.heap.size]? = _
  rw [Array.getElem?_push, if_pos rfl]
theorem TxtAt.keep' {w W W' : World} {MB : Array Value} {l : List UInt8} (h : TxtAt w W MB l) (k : Keep W W') : TxtAt w W' MB l :=
  ⟨h.keep.trans k, Nat.le_trans h.size k.size, h.man.keep k, h.bld.elim fun v hv => ⟨v, hv.keep k⟩⟩
theorem BL.own_lt {W : World} {B b : Nat} {v : Value} {l : List UInt8} (h : BL W B b v l) {g : Nat} (hg : v.ownBlock = some g) : B ≤ g ∧ g < W.heap.size := World.ownsRow.lt h.own g hg
theorem TxtAt.put {w W W' : World} {MB : Array Value} {l l' : List UInt8} {v v' : Value} (h : TxtAt w W MB l) (hv : BL W (w.heap.size + 1) (w.heap.size + 1) v l) (k : KeepBut (BLs (w.heap.size + 1) v) W W') (hv' : BL W' (w.heap.size + 1) (w.heap.size + 1) v' l') : TxtAt w W' MB l' := by
  refine ⟨h.keep.butNew k ?_, Nat.le_trans h.size k.size, h.man.but k ?_, v', hv'⟩
  · rintro x (rfl | hx)
    · omega
    · have := (hv.own_lt hx).1; omega
  · rintro (hx | hx)
    · omega
    · have := (hv.own_lt hx).1; omega
/-- What a put may change, beside a local that stands alone. -/
theorem BLs_but {w wr : World} {v : Value} {l : List UInt8} (hv : BL wr (w.heap.size + 1) (w.heap.size + 1) v l) (hs : w.heap.size + 2 ≤ wr.heap.size) {z : Nat} (h : BLs (w.heap.size + 1) v z) : w.heap.size + 1 ≤ z ∧ z ≠ wr.heap.size := by
  rcases h with rfl | hx
  · exact ⟨Nat.le_refl _, by omega⟩
  · have := hv.own_lt hx; exact ⟨this.1, by omega⟩
set_option maxHeartbeats 8000000 in
set_option maxRecDepth 100000 in
theorem mtext_any (m : ManV) (vc vi vs vg : Value) (w : World) (h : ManAt w m vc vi vs vg) (hm : ManMay m) (hw : manW m = okW) (hT : (manT m).length ≤ 100000) (hsc : ∀ c ∈ m.comps, c.stack < 100) (hss : ∀ c ∈ m.shrs, c.stack < 100) :
    Calls Tryz.prog 8 #[manVal m vc vi vs vg] w fun e w' => e = .returned (.string (bsL (manT m))) ∧ Keep w w' := by
  have HG := Lib.hid (grns_ok hw)
  have HM := Lib.hid hm
  have fc := hm.comps
  have fi := hm.imps
  have fs := hm.shrs
  have fg := hm.grns
  have HSC := Lib.hid hsc
  have HSS := Lib.hid hss
  obtain ⟨T, hTd⟩ : ∃ T, T = manT m := ⟨_, rfl⟩
  rw [← hTd] at hT ⊢
  rw [manT_lines] at hTd
  obtain ⟨T1, e1⟩ : ∃ T1, T1 = m.comps.flatMap cLine := ⟨_, rfl⟩
  obtain ⟨T2, e2⟩ : ∃ T2, T2 = m.imps.flatMap iLine := ⟨_, rfl⟩
  obtain ⟨T3, e3⟩ : ∃ T3, T3 = m.shrs.flatMap sLine := ⟨_, rfl⟩
  obtain ⟨T4, e4⟩ : ∃ T4, T4 = m.grns.flatMap gLine := ⟨_, rfl⟩
  rw [← e1, ← e2, ← e3, ← e4] at hTd
  have hlen : T1.length + (T2.length + (T3.length + (T4.length + (stLine m).length))) ≤ 100000 := by
    rw [hTd] at hT
    simpa using hT
  have HTD := Lib.hid hTd
  have E1 := Lib.hid e1
  have E2 := Lib.hid e2
  have E3 := Lib.hid e3
  have E4 := Lib.hid e4
  have HLEN := Lib.hid hlen
  obtain ⟨pc, cc, rfl, hcc, _, _⟩ := h.comps
  obtain ⟨pi, ci, rfl, hci, _, _⟩ := h.imps
  obtain ⟨ps, cs, rfl, hcs, _, _⟩ := h.shrs
  obtain ⟨pg, cg, rfl, hcg, _, _⟩ := h.grns
  have HO := Lib.hid h
  unfold manVal
  clear h hm hw hT hsc hss hTd e1 e2 e3 e4 hlen
  obtain ⟨W0, hW0⟩ : ∃ W0, W0 = (w.alloc (.cells #[.slice pc m.comps.length cc, .slice pi m.imps.length ci, .slice ps m.shrs.length cs, .slice pg m.grns.length cg, .string m.start.comp, .string m.start.from_, .string m.start.name] 34)).alloc (.cells #[.pointer none, .slice none 0 0] 66) := ⟨_, rfl⟩
  obtain ⟨mb, hmb⟩ : ∃ mb : Array Value, mb = #[.slice pc m.comps.length cc, .slice pi m.imps.length ci, .slice ps m.shrs.length cs, .slice pg m.grns.length cg, .string m.start.comp, .string m.start.from_, .string m.start.name] := ⟨_, rfl⟩
  have HMB := Lib.hid hmb
  have A : Hid (TxtAt w W0 mb []) := Lib.hid (by
    rw [hW0, hmb]
    refine ⟨((Keep.refl _).alloc _).alloc _, by simp, (Box.new _ _ _).alloc _, .slice none 0 0, Nat.le_refl _, ⟨_, .inl rfl, ?_⟩, World.ownsRow_nil _ _ _ _, by simp [Value.ownBlock]⟩
    have e : (w.alloc (.cells #[.slice pc m.comps.length cc, .slice pi m.imps.length ci, .slice ps m.shrs.length cs, .slice pg m.grns.length cg, .string m.start.comp, .string m.start.from_, .string m.start.name] 34)).heap.size = w.heap.size + 1 := by simp
    rw [← e]; exact heap_new _ _)
  clear hmb
  have am := A.out.man.cells
  rw [HMB.out] at am
  go_enter Tryz.func8, Tryz.ntmps8
  go_wp2_with fail
  rw [← hW0]
  clear hW0
  go_loopw [6, 17] (fun _ i wr => ∃ k : Nat, k ≤ m.comps.length ∧ i = .int .i64 (k : Int) ∧ TxtAt w wr mb ([] ++ (m.comps.take k).flatMap cLine)) (fun _ i _ => m.comps.length - (intOf i).toNat)
  case atStart => exact ⟨0, Nat.zero_le _, rfl, by simpa using A.out⟩
  case round =>
    obtain ⟨k, hk, rfl, hA⟩ := hrel
    have AR := Lib.hid hA
    clear hA
    have k0 : (0 : Int) ≤ (k : Int) := Int.natCast_nonneg _
    by_cases hlt : k < m.comps.length
    · have hki : (k : Int) < (m.comps.length : Int) := by omega
      obtain ⟨x, hx⟩ : ∃ x, m.comps[k]? = some x := ⟨_, List.getElem?_eq_getElem hlt⟩
      have HX := Lib.hid hx
      have LE := line_le (f := cLine) hx
      rw [← E1.out] at LE
      have lln := HLEN.out
      obtain ⟨z1, z2, z3⟩ := HM.out.compN x (List.mem_of_getElem? hx)
      have CD := Lib.hid (fun W => mdecimal_any x.stack z2 (HSC.out x (List.mem_of_getElem? hx)) W)
      clear hx
      have HCK := HO.out.comps
      obtain ⟨bq0, off0, cap0, e0, _, n0⟩ := SlAt.cellOf compRow_length HCK HX.out (j := 0) (x := .string x.name) rfl
      cases e0
      replace n0 := AR.out.keep.cellOf n0
      obtain ⟨bq1, off1, cap1, e1, _, n1⟩ := SlAt.cellOf compRow_length HCK HX.out (j := 1) (x := .int .u32 x.stack) rfl
      cases e1
      replace n1 := AR.out.keep.cellOf n1
      rw [Nat.add_zero] at n0
      rw [← Nat.add_assoc] at n1
      clear HCK
      obtain ⟨v, hv⟩ := AR.out.bld
      have BV := Lib.hid hv
      have SZ := AR.out.size
      clear hv
      obtain ⟨W1, hW1⟩ : ∃ W1, W1 = wr.alloc (.cells #[.string x.name, .int .u32 x.stack] 44) := ⟨_, rfl⟩
      have SW : Hid (W1.heap.size = wr.heap.size + 1) := Lib.hid (by rw [hW1]; simp)
      have BX : Hid (Box W1 wr.heap.size #[.string x.name, .int .u32 x.stack]) := Lib.hid (by rw [hW1]; exact Box.new _ _ _)
      have A1 : Hid (TxtAt w W1 mb ([] ++ (m.comps.take k).flatMap cLine)) := Lib.hid (by rw [hW1]; exact AR.out.keep' ((Keep.refl _).alloc _))
      have BV1 : Hid (BL W1 (w.heap.size + 1) (w.heap.size + 1) v ([] ++ (m.comps.take k).flatMap cLine)) := Lib.hid (by rw [hW1]; exact BV.out.keep ((Keep.refl _).alloc _))
      have HPL : ([] ++ (m.comps.take k).flatMap cLine).length ≤ 100000 := by
        simp only [List.length_append, List.length_nil]; omega
      go_wp2_with fail
      rw [← hW1]
      clear hW1 n0 n1
      refine Rel.regionO (KeepBut (fun z => w.heap.size + 1 ≤ z ∧ z ≠ wr.heap.size)) (butWay _) [6, 7] [0, 1, 2, 3, 4, 5, 6, 7] (by kernel_rfl) (by kernel_rfl) (Keep.refl _) ?_
      repeat (apply Rel.ordK_step (by rfl) (by rfl) (by rfl)
              · intro W' hW'
                have cx := (BX.out.but hW' (by rintro ⟨_, h⟩; exact h rfl)).cells
                go_simp
                first
                  | exact ⟨rfl, Keep.refl _⟩
                  | (apply yes_enter; go_at_call 20; refine (CD.out _).mono ?_; rintro e w' ⟨rfl, rfl⟩; exact ⟨rfl, Keep.refl _⟩)
              go_simp)
      apply Rel.ordK_loose (by rfl) (by rfl) (by rfl)
      intro Wa ha
      go_simp
      apply Rel.gives_value
      refine ⟨((Keep.refl _).alloc _).but _, ?_⟩
      have A2 := Lib.hid (A1.out.keep' (ha.alloc (.cells #[.string ⟨#[99, 111, 109, 112]⟩, .string x.name, .string (bsL (digsL x.stack.toNat))] 9)))
      have BV2 := Lib.hid (BV1.out.keep (ha.alloc (.cells #[.string ⟨#[99, 111, 109, 112]⟩, .string x.name, .string (bsL (digsL x.stack.toNat))] 9)))
      have BS := Lib.hid (Box.new Wa #[.string ⟨#[99, 111, 109, 112]⟩, .string x.name, .string (bsL (digsL x.stack.toNat))] 9)
      obtain ⟨gb, hgb⟩ : ∃ gb, gb = Wa.heap.size := ⟨_, rfl⟩
      rw [← hgb] at BS ⊢
      obtain ⟨WB, hWB⟩ : ∃ WB, WB = Wa.alloc (.cells #[.string ⟨#[99, 111, 109, 112]⟩, .string x.name, .string (bsL (digsL x.stack.toNat))] 9) := ⟨_, rfl⟩
      rw [← hWB] at A2 BV2 BS ⊢
      clear hWB hgb ha A1 BV1
      go_simp
      apply Rel.ordK_loose (by rfl) (by rfl) (by rfl)
      intro Wc hc
      have A3 := Lib.hid (A2.out.keep' hc)
      have BV3 := Lib.hid (BV2.out.keep hc)
      have BS3 : Hid (Box Wc gb #[.string compT, .string x.name, .string (bsL (digsL x.stack.toNat))]) := Lib.hid (BS.out.keep hc)
      clear hc A2 BV2 BS
      go_simp
      apply Rel.gives_enter
      go_at_call 17
      refine (mput_any _ _ _ _ gb 3 compT [x.name, bsL (digsL x.stack.toNat)] rfl Wc BV3.out (by have := A3.out.size; omega) (by
        intro j y hy
        match j, hy with
        | 0, hy => simp only [List.getElem?_cons_zero, List.getElem?_cons_succ, Option.some.injEq] at hy; subst hy; exact BS3.out.cells 0
        | 1, hy => simp only [List.getElem?_cons_zero, List.getElem?_cons_succ, Option.some.injEq] at hy; subst hy; exact BS3.out.cells 1
        | 2, hy => simp only [List.getElem?_cons_zero, List.getElem?_cons_succ, Option.some.injEq] at hy; subst hy; exact BS3.out.cells 2
        | j + 3, hy => simp at hy) BS3.out.lt (by decide) (by rw [cLine_is]; omega) (by omega)).mono ?_
      rintro e w8 ⟨⟨r, rfl⟩, v', hb', hkk⟩
      refine ⟨_, rfl, hkk.mono (fun z _ hz => BLs_but BV.out SZ hz), ?_⟩
      have A4 := Lib.hid (A3.out.put BV3.out hkk hb')
      clear hkk hb' A3 BV3 BS3
      rw [cLine_is, List.append_assoc, ← take_line HX.out] at A4
      go_simp
      apply Rel.ordK_end
      intro W5 hW5
      have A5 := Lib.hid (A4.out.keep' hW5)
      clear hW5 A4
      go_wp2_with fail
      go_roundw
      case rel => exact ⟨k + 1, hlt, by go_num, A5.out⟩
      case measure => simp [intOf]; omega
    · obtain rfl : k = m.comps.length := by omega
      rw [List.take_length, ← E1.out] at AR
      clear A
      have A := Lib.hid AR.out
      clear AR
      have am := A.out.man.cells
      rw [HMB.out] at am
      go_wp2_with fail
      go_loopw [8, 33] (fun _ i wr => ∃ k : Nat, k ≤ m.imps.length ∧ i = .int .i64 (k : Int) ∧ TxtAt w wr mb (([] ++ T1) ++ (m.imps.take k).flatMap iLine)) (fun _ i _ => m.imps.length - (intOf i).toNat)
      case atStart => exact ⟨0, Nat.zero_le _, rfl, by simpa using A.out⟩
      case round =>
        obtain ⟨k, hk, rfl, hA⟩ := hrel
        have AR := Lib.hid hA
        clear hA
        have k0 : (0 : Int) ≤ (k : Int) := Int.natCast_nonneg _
        by_cases hlt : k < m.imps.length
        · have hki : (k : Int) < (m.imps.length : Int) := by omega
          obtain ⟨x, hx⟩ : ∃ x, m.imps[k]? = some x := ⟨_, List.getElem?_eq_getElem hlt⟩
          have HX := Lib.hid hx
          have LE := line_le (f := iLine) hx
          rw [← E2.out] at LE
          have lln := HLEN.out
          clear hx
          have HCK := HO.out.imps
          obtain ⟨bq0, off0, cap0, e0, _, n0⟩ := SlAt.cellOf impRow_length HCK HX.out (j := 0) (x := .string x.comp) rfl
          cases e0
          replace n0 := AR.out.keep.cellOf n0
          obtain ⟨bq1, off1, cap1, e1, _, n1⟩ := SlAt.cellOf impRow_length HCK HX.out (j := 1) (x := .string x.from_) rfl
          cases e1
          replace n1 := AR.out.keep.cellOf n1
          obtain ⟨bq2, off2, cap2, e2, _, n2⟩ := SlAt.cellOf impRow_length HCK HX.out (j := 2) (x := .string x.name) rfl
          cases e2
          replace n2 := AR.out.keep.cellOf n2
          rw [Nat.add_zero] at n0
          rw [← Nat.add_assoc] at n1
          rw [← Nat.add_assoc] at n2
          clear HCK
          obtain ⟨v, hv⟩ := AR.out.bld
          have BV := Lib.hid hv
          have SZ := AR.out.size
          clear hv
          obtain ⟨W1, hW1⟩ : ∃ W1, W1 = wr.alloc (.cells #[.string x.comp, .string x.from_, .string x.name] 32) := ⟨_, rfl⟩
          have SW : Hid (W1.heap.size = wr.heap.size + 1) := Lib.hid (by rw [hW1]; simp)
          have BX : Hid (Box W1 wr.heap.size #[.string x.comp, .string x.from_, .string x.name]) := Lib.hid (by rw [hW1]; exact Box.new _ _ _)
          have A1 : Hid (TxtAt w W1 mb (([] ++ T1) ++ (m.imps.take k).flatMap iLine)) := Lib.hid (by rw [hW1]; exact AR.out.keep' ((Keep.refl _).alloc _))
          have BV1 : Hid (BL W1 (w.heap.size + 1) (w.heap.size + 1) v (([] ++ T1) ++ (m.imps.take k).flatMap iLine)) := Lib.hid (by rw [hW1]; exact BV.out.keep ((Keep.refl _).alloc _))
          have HPL : (([] ++ T1) ++ (m.imps.take k).flatMap iLine).length ≤ 100000 := by
            simp only [List.length_append, List.length_nil]; omega
          go_wp2_with fail
          rw [← hW1]
          clear hW1 n0 n1 n2
          have A2 := Lib.hid (A1.out.keep' ((Keep.refl W1).alloc (.cells #[.string ⟨#[105, 109, 112, 111, 114, 116]⟩, .string x.comp, .string x.from_, .string x.name] 9)))
          have BV2 := Lib.hid (BV1.out.keep ((Keep.refl W1).alloc (.cells #[.string ⟨#[105, 109, 112, 111, 114, 116]⟩, .string x.comp, .string x.from_, .string x.name] 9)))
          have BS := Lib.hid (Box.new W1 #[.string ⟨#[105, 109, 112, 111, 114, 116]⟩, .string x.comp, .string x.from_, .string x.name] 9)
          rw [SW.out] at BS
          obtain ⟨gb, hgb⟩ : ∃ gb, gb = wr.heap.size + 1 := ⟨_, rfl⟩
          rw [← hgb] at BS ⊢
          obtain ⟨Wc, hWc⟩ : ∃ Wc, Wc = W1.alloc (.cells #[.string ⟨#[105, 109, 112, 111, 114, 116]⟩, .string x.comp, .string x.from_, .string x.name] 9) := ⟨_, rfl⟩
          rw [← hWc] at A2 BV2 BS ⊢
          have A3 := Lib.hid A2.out
          have BV3 := Lib.hid BV2.out
          have BS3 : Hid (Box Wc gb #[.string importT, .string x.comp, .string x.from_, .string x.name]) := Lib.hid BS.out
          clear hWc hgb A1 BV1 A2 BV2 BS
          refine (mput_any _ _ _ _ gb 4 importT [x.comp, x.from_, x.name] rfl Wc BV3.out (by have := A3.out.size; omega) (by
            intro j y hy
            match j, hy with
            | 0, hy => simp only [List.getElem?_cons_zero, List.getElem?_cons_succ, Option.some.injEq] at hy; subst hy; exact BS3.out.cells 0
            | 1, hy => simp only [List.getElem?_cons_zero, List.getElem?_cons_succ, Option.some.injEq] at hy; subst hy; exact BS3.out.cells 1
            | 2, hy => simp only [List.getElem?_cons_zero, List.getElem?_cons_succ, Option.some.injEq] at hy; subst hy; exact BS3.out.cells 2
            | 3, hy => simp only [List.getElem?_cons_zero, List.getElem?_cons_succ, Option.some.injEq] at hy; subst hy; exact BS3.out.cells 3
            | j + 4, hy => simp at hy) BS3.out.lt (by decide) (by rw [iLine_is]; omega) (by omega)).mono ?_
          rintro e w8 ⟨⟨r, rfl⟩, v', hb', hkk⟩
          have A4 := Lib.hid (A3.out.put BV3.out hkk hb')
          clear hkk hb' A3 BV3 BS3
          rw [iLine_is, List.append_assoc, ← take_line HX.out] at A4
          go_wp2_with fail
          go_roundw
          case rel => exact ⟨k + 1, hlt, by go_num, A4.out⟩
          case measure => simp [intOf]; omega
        · obtain rfl : k = m.imps.length := by omega
          rw [List.take_length, ← E2.out] at AR
          clear A
          have A := Lib.hid AR.out
          clear AR
          have am := A.out.man.cells
          rw [HMB.out] at am
          go_wp2_with fail
          go_loopw [10, 50] (fun _ i wr => ∃ k : Nat, k ≤ m.shrs.length ∧ i = .int .i64 (k : Int) ∧ TxtAt w wr mb ((([] ++ T1) ++ T2) ++ (m.shrs.take k).flatMap sLine)) (fun _ i _ => m.shrs.length - (intOf i).toNat)
          case atStart => exact ⟨0, Nat.zero_le _, rfl, by simpa using A.out⟩
          case round =>
            obtain ⟨k, hk, rfl, hA⟩ := hrel
            have AR := Lib.hid hA
            clear hA
            have k0 : (0 : Int) ≤ (k : Int) := Int.natCast_nonneg _
            by_cases hlt : k < m.shrs.length
            · have hki : (k : Int) < (m.shrs.length : Int) := by omega
              obtain ⟨x, hx⟩ : ∃ x, m.shrs[k]? = some x := ⟨_, List.getElem?_eq_getElem hlt⟩
              have HX := Lib.hid hx
              have LE := line_le (f := sLine) hx
              rw [← E3.out] at LE
              have lln := HLEN.out
              obtain ⟨z1, z2, z3⟩ := HM.out.shrN x (List.mem_of_getElem? hx)
              have CD := Lib.hid (fun W => mdecimal_any x.stack z2 (HSS.out x (List.mem_of_getElem? hx)) W)
              clear hx
              have HCK := HO.out.shrs
              obtain ⟨bq0, off0, cap0, e0, _, n0⟩ := SlAt.cellOf compRow_length HCK HX.out (j := 0) (x := .string x.name) rfl
              cases e0
              replace n0 := AR.out.keep.cellOf n0
              obtain ⟨bq1, off1, cap1, e1, _, n1⟩ := SlAt.cellOf compRow_length HCK HX.out (j := 1) (x := .int .u32 x.stack) rfl
              cases e1
              replace n1 := AR.out.keep.cellOf n1
              rw [Nat.add_zero] at n0
              rw [← Nat.add_assoc] at n1
              clear HCK
              obtain ⟨v, hv⟩ := AR.out.bld
              have BV := Lib.hid hv
              have SZ := AR.out.size
              clear hv
              obtain ⟨W1, hW1⟩ : ∃ W1, W1 = wr.alloc (.cells #[.string x.name, .int .u32 x.stack] 74) := ⟨_, rfl⟩
              have SW : Hid (W1.heap.size = wr.heap.size + 1) := Lib.hid (by rw [hW1]; simp)
              have BX : Hid (Box W1 wr.heap.size #[.string x.name, .int .u32 x.stack]) := Lib.hid (by rw [hW1]; exact Box.new _ _ _)
              have A1 : Hid (TxtAt w W1 mb ((([] ++ T1) ++ T2) ++ (m.shrs.take k).flatMap sLine)) := Lib.hid (by rw [hW1]; exact AR.out.keep' ((Keep.refl _).alloc _))
              have BV1 : Hid (BL W1 (w.heap.size + 1) (w.heap.size + 1) v ((([] ++ T1) ++ T2) ++ (m.shrs.take k).flatMap sLine)) := Lib.hid (by rw [hW1]; exact BV.out.keep ((Keep.refl _).alloc _))
              have HPL : ((([] ++ T1) ++ T2) ++ (m.shrs.take k).flatMap sLine).length ≤ 100000 := by
                simp only [List.length_append, List.length_nil]; omega
              go_wp2_with fail
              rw [← hW1]
              clear hW1 n0 n1
              refine Rel.regionO (KeepBut (fun z => w.heap.size + 1 ≤ z ∧ z ≠ wr.heap.size)) (butWay _) [6, 7] [0, 1, 2, 3, 4, 5, 6, 7] (by kernel_rfl) (by kernel_rfl) (Keep.refl _) ?_
              repeat (apply Rel.ordK_step (by rfl) (by rfl) (by rfl)
                      · intro W' hW'
                        have cx := (BX.out.but hW' (by rintro ⟨_, h⟩; exact h rfl)).cells
                        go_simp
                        first
                          | exact ⟨rfl, Keep.refl _⟩
                          | (apply yes_enter; go_at_call 20; refine (CD.out _).mono ?_; rintro e w' ⟨rfl, rfl⟩; exact ⟨rfl, Keep.refl _⟩)
                      go_simp)
              apply Rel.ordK_loose (by rfl) (by rfl) (by rfl)
              intro Wa ha
              go_simp
              apply Rel.gives_value
              refine ⟨((Keep.refl _).alloc _).but _, ?_⟩
              have A2 := Lib.hid (A1.out.keep' (ha.alloc (.cells #[.string ⟨#[115, 104, 97, 114, 101]⟩, .string x.name, .string (bsL (digsL x.stack.toNat))] 9)))
              have BV2 := Lib.hid (BV1.out.keep (ha.alloc (.cells #[.string ⟨#[115, 104, 97, 114, 101]⟩, .string x.name, .string (bsL (digsL x.stack.toNat))] 9)))
              have BS := Lib.hid (Box.new Wa #[.string ⟨#[115, 104, 97, 114, 101]⟩, .string x.name, .string (bsL (digsL x.stack.toNat))] 9)
              obtain ⟨gb, hgb⟩ : ∃ gb, gb = Wa.heap.size := ⟨_, rfl⟩
              rw [← hgb] at BS ⊢
              obtain ⟨WB, hWB⟩ : ∃ WB, WB = Wa.alloc (.cells #[.string ⟨#[115, 104, 97, 114, 101]⟩, .string x.name, .string (bsL (digsL x.stack.toNat))] 9) := ⟨_, rfl⟩
              rw [← hWB] at A2 BV2 BS ⊢
              clear hWB hgb ha A1 BV1
              go_simp
              apply Rel.ordK_loose (by rfl) (by rfl) (by rfl)
              intro Wc hc
              have A3 := Lib.hid (A2.out.keep' hc)
              have BV3 := Lib.hid (BV2.out.keep hc)
              have BS3 : Hid (Box Wc gb #[.string shareT, .string x.name, .string (bsL (digsL x.stack.toNat))]) := Lib.hid (BS.out.keep hc)
              clear hc A2 BV2 BS
              go_simp
              apply Rel.gives_enter
              go_at_call 17
              refine (mput_any _ _ _ _ gb 3 shareT [x.name, bsL (digsL x.stack.toNat)] rfl Wc BV3.out (by have := A3.out.size; omega) (by
                intro j y hy
                match j, hy with
                | 0, hy => simp only [List.getElem?_cons_zero, List.getElem?_cons_succ, Option.some.injEq] at hy; subst hy; exact BS3.out.cells 0
                | 1, hy => simp only [List.getElem?_cons_zero, List.getElem?_cons_succ, Option.some.injEq] at hy; subst hy; exact BS3.out.cells 1
                | 2, hy => simp only [List.getElem?_cons_zero, List.getElem?_cons_succ, Option.some.injEq] at hy; subst hy; exact BS3.out.cells 2
                | j + 3, hy => simp at hy) BS3.out.lt (by decide) (by rw [sLine_is]; omega) (by omega)).mono ?_
              rintro e w8 ⟨⟨r, rfl⟩, v', hb', hkk⟩
              refine ⟨_, rfl, hkk.mono (fun z _ hz => BLs_but BV.out SZ hz), ?_⟩
              have A4 := Lib.hid (A3.out.put BV3.out hkk hb')
              clear hkk hb' A3 BV3 BS3
              rw [sLine_is, List.append_assoc, ← take_line HX.out] at A4
              go_simp
              apply Rel.ordK_end
              intro W5 hW5
              have A5 := Lib.hid (A4.out.keep' hW5)
              clear hW5 A4
              go_wp2_with fail
              go_roundw
              case rel => exact ⟨k + 1, hlt, by go_num, A5.out⟩
              case measure => simp [intOf]; omega
            · obtain rfl : k = m.shrs.length := by omega
              rw [List.take_length, ← E3.out] at AR
              clear A
              have A := Lib.hid AR.out
              clear AR
              have am := A.out.man.cells
              rw [HMB.out] at am
              go_wp2_with fail
              go_loopw [12, 66] (fun _ i wr => ∃ k : Nat, k ≤ m.grns.length ∧ i = .int .i64 (k : Int) ∧ TxtAt w wr mb (((([] ++ T1) ++ T2) ++ T3) ++ (m.grns.take k).flatMap gLine)) (fun _ i _ => m.grns.length - (intOf i).toNat)
              case atStart => exact ⟨0, Nat.zero_le _, rfl, by simpa using A.out⟩
              case round =>
                obtain ⟨k, hk, rfl, hA⟩ := hrel
                have AR := Lib.hid hA
                clear hA
                have k0 : (0 : Int) ≤ (k : Int) := Int.natCast_nonneg _
                by_cases hlt : k < m.grns.length
                · have hki : (k : Int) < (m.grns.length : Int) := by omega
                  obtain ⟨x, hx⟩ : ∃ x, m.grns[k]? = some x := ⟨_, List.getElem?_eq_getElem hlt⟩
                  have HX := Lib.hid hx
                  have LE := line_le (f := gLine) hx
                  rw [← E4.out] at LE
                  have lln := HLEN.out
                  obtain ⟨z1, z2, z3, z4⟩ := HM.out.grnN x (List.mem_of_getElem? hx)
                  have CD := Lib.hid (fun W => mpermWord_any x.perm W)
                  clear hx
                  have HCK := HO.out.grns
                  obtain ⟨bq0, off0, cap0, e0, _, n0⟩ := SlAt.cellOf grnRow_length HCK HX.out (j := 0) (x := .string x.comp) rfl
                  cases e0
                  replace n0 := AR.out.keep.cellOf n0
                  obtain ⟨bq1, off1, cap1, e1, _, n1⟩ := SlAt.cellOf grnRow_length HCK HX.out (j := 1) (x := .string x.share) rfl
                  cases e1
                  replace n1 := AR.out.keep.cellOf n1
                  obtain ⟨bq2, off2, cap2, e2, _, n2⟩ := SlAt.cellOf grnRow_length HCK HX.out (j := 2) (x := .int .u16 x.perm) rfl
                  cases e2
                  replace n2 := AR.out.keep.cellOf n2
                  rw [Nat.add_zero] at n0
                  rw [← Nat.add_assoc] at n1
                  rw [← Nat.add_assoc] at n2
                  clear HCK
                  obtain ⟨v, hv⟩ := AR.out.bld
                  have BV := Lib.hid hv
                  have SZ := AR.out.size
                  clear hv
                  obtain ⟨W1, hW1⟩ : ∃ W1, W1 = wr.alloc (.cells #[.string x.comp, .string x.share, .int .u16 x.perm] 46) := ⟨_, rfl⟩
                  have SW : Hid (W1.heap.size = wr.heap.size + 1) := Lib.hid (by rw [hW1]; simp)
                  have BX : Hid (Box W1 wr.heap.size #[.string x.comp, .string x.share, .int .u16 x.perm]) := Lib.hid (by rw [hW1]; exact Box.new _ _ _)
                  have A1 : Hid (TxtAt w W1 mb (((([] ++ T1) ++ T2) ++ T3) ++ (m.grns.take k).flatMap gLine)) := Lib.hid (by rw [hW1]; exact AR.out.keep' ((Keep.refl _).alloc _))
                  have BV1 : Hid (BL W1 (w.heap.size + 1) (w.heap.size + 1) v (((([] ++ T1) ++ T2) ++ T3) ++ (m.grns.take k).flatMap gLine)) := Lib.hid (by rw [hW1]; exact BV.out.keep ((Keep.refl _).alloc _))
                  have HPL : (((([] ++ T1) ++ T2) ++ T3) ++ (m.grns.take k).flatMap gLine).length ≤ 100000 := by
                    simp only [List.length_append, List.length_nil]; omega
                  go_wp2_with fail
                  rw [← hW1]
                  clear hW1 n0 n1 n2
                  refine Rel.regionO (KeepBut (fun z => w.heap.size + 1 ≤ z ∧ z ≠ wr.heap.size)) (butWay _) [8, 9] [0, 1, 2, 3, 4, 5, 6, 7, 8, 9] (by kernel_rfl) (by kernel_rfl) (Keep.refl _) ?_
                  repeat (apply Rel.ordK_step (by rfl) (by rfl) (by rfl)
                          · intro W' hW'
                            have cx := (BX.out.but hW' (by rintro ⟨_, h⟩; exact h rfl)).cells
                            go_simp
                            first
                              | exact ⟨rfl, Keep.refl _⟩
                              | (apply yes_enter; go_at_call 21; refine (CD.out _).mono ?_; rintro e w' ⟨rfl, rfl⟩; exact ⟨rfl, Keep.refl _⟩)
                          go_simp)
                  apply Rel.ordK_loose (by rfl) (by rfl) (by rfl)
                  intro Wa ha
                  go_simp
                  apply Rel.gives_value
                  refine ⟨((Keep.refl _).alloc _).but _, ?_⟩
                  have A2 := Lib.hid (A1.out.keep' (ha.alloc (.cells #[.string ⟨#[103, 114, 97, 110, 116]⟩, .string x.comp, .string x.share, .string (permS x.perm)] 9)))
                  have BV2 := Lib.hid (BV1.out.keep (ha.alloc (.cells #[.string ⟨#[103, 114, 97, 110, 116]⟩, .string x.comp, .string x.share, .string (permS x.perm)] 9)))
                  have BS := Lib.hid (Box.new Wa #[.string ⟨#[103, 114, 97, 110, 116]⟩, .string x.comp, .string x.share, .string (permS x.perm)] 9)
                  obtain ⟨gb, hgb⟩ : ∃ gb, gb = Wa.heap.size := ⟨_, rfl⟩
                  rw [← hgb] at BS ⊢
                  obtain ⟨WB, hWB⟩ : ∃ WB, WB = Wa.alloc (.cells #[.string ⟨#[103, 114, 97, 110, 116]⟩, .string x.comp, .string x.share, .string (permS x.perm)] 9) := ⟨_, rfl⟩
                  rw [← hWB] at A2 BV2 BS ⊢
                  clear hWB hgb ha A1 BV1
                  go_simp
                  apply Rel.ordK_loose (by rfl) (by rfl) (by rfl)
                  intro Wc hc
                  have A3 := Lib.hid (A2.out.keep' hc)
                  have BV3 := Lib.hid (BV2.out.keep hc)
                  have BS3 : Hid (Box Wc gb #[.string grantT, .string x.comp, .string x.share, .string (permS x.perm)]) := Lib.hid (BS.out.keep hc)
                  clear hc A2 BV2 BS
                  go_simp
                  apply Rel.gives_enter
                  go_at_call 17
                  refine (mput_any _ _ _ _ gb 4 grantT [x.comp, x.share, permS x.perm] rfl Wc BV3.out (by have := A3.out.size; omega) (by
                    intro j y hy
                    match j, hy with
                    | 0, hy => simp only [List.getElem?_cons_zero, List.getElem?_cons_succ, Option.some.injEq] at hy; subst hy; exact BS3.out.cells 0
                    | 1, hy => simp only [List.getElem?_cons_zero, List.getElem?_cons_succ, Option.some.injEq] at hy; subst hy; exact BS3.out.cells 1
                    | 2, hy => simp only [List.getElem?_cons_zero, List.getElem?_cons_succ, Option.some.injEq] at hy; subst hy; exact BS3.out.cells 2
                    | 3, hy => simp only [List.getElem?_cons_zero, List.getElem?_cons_succ, Option.some.injEq] at hy; subst hy; exact BS3.out.cells 3
                    | j + 4, hy => simp at hy) BS3.out.lt (by decide) (by rw [gLine_is z3 (HG.out k x HX.out)]; omega) (by omega)).mono ?_
                  rintro e w8 ⟨⟨r, rfl⟩, v', hb', hkk⟩
                  refine ⟨_, rfl, hkk.mono (fun z _ hz => BLs_but BV.out SZ hz), ?_⟩
                  have A4 := Lib.hid (A3.out.put BV3.out hkk hb')
                  clear hkk hb' A3 BV3 BS3
                  rw [gLine_is z3 (HG.out k x HX.out), List.append_assoc, ← take_line HX.out] at A4
                  go_simp
                  apply Rel.ordK_end
                  intro W5 hW5
                  have A5 := Lib.hid (A4.out.keep' hW5)
                  clear hW5 A4
                  go_wp2_with fail
                  go_roundw
                  case rel => exact ⟨k + 1, hlt, by go_num, A5.out⟩
                  case measure => simp [intOf]; omega
                · obtain rfl : k = m.grns.length := by omega
                  rw [List.take_length, ← E4.out] at AR
                  clear A
                  have A := Lib.hid AR.out
                  clear AR
                  have am := A.out.man.cells
                  rw [HMB.out] at am
                  go_wp2_with fail
                  obtain ⟨v, hv⟩ := A.out.bld
                  have A3 := Lib.hid (A.out.keep' ((Keep.refl wr).alloc (.cells #[.string ⟨#[115, 116, 97, 114, 116]⟩, .string m.start.from_, .string m.start.name] 9)))
                  have BV3 := Lib.hid (hv.keep ((Keep.refl wr).alloc (.cells #[.string ⟨#[115, 116, 97, 114, 116]⟩, .string m.start.from_, .string m.start.name] 9)))
                  have BS3 : Hid (Box (wr.alloc (.cells #[.string ⟨#[115, 116, 97, 114, 116]⟩, .string m.start.from_, .string m.start.name] 9)) wr.heap.size #[.string mstartT, .string m.start.from_, .string m.start.name]) := Lib.hid (Box.new _ _ _)
                  obtain ⟨gb, hgb⟩ : ∃ gb, gb = wr.heap.size := ⟨_, rfl⟩
                  rw [← hgb] at BS3 ⊢
                  obtain ⟨Wc, hWc⟩ : ∃ Wc, Wc = wr.alloc (.cells #[.string ⟨#[115, 116, 97, 114, 116]⟩, .string m.start.from_, .string m.start.name] 9) := ⟨_, rfl⟩
                  rw [← hWc] at A3 BV3 BS3 ⊢
                  have lln := HLEN.out
                  have HPL : ((((([] ++ T1) ++ T2) ++ T3) ++ T4).length) ≤ 100000 := by
                    simp only [List.length_append, List.length_nil]; omega
                  clear hWc hgb hv A am
                  refine (mput_any _ _ _ _ gb 3 mstartT [m.start.from_, m.start.name] rfl Wc BV3.out (by have := A3.out.size; omega) (by
                    intro j y hy
                    match j, hy with
                    | 0, hy => simp only [List.getElem?_cons_zero, List.getElem?_cons_succ, Option.some.injEq] at hy; subst hy; exact BS3.out.cells 0
                    | 1, hy => simp only [List.getElem?_cons_zero, List.getElem?_cons_succ, Option.some.injEq] at hy; subst hy; exact BS3.out.cells 1
                    | 2, hy => simp only [List.getElem?_cons_zero, List.getElem?_cons_succ, Option.some.injEq] at hy; subst hy; exact BS3.out.cells 2
                    | j + 3, hy => simp at hy) BS3.out.lt (by decide) (by rw [stLine_is]; omega) (by omega)).mono ?_
                  rintro e w8 ⟨⟨r, rfl⟩, v', hb', hkk⟩
                  have A4 := Lib.hid (A3.out.put BV3.out hkk hb')
                  have BV4 := Lib.hid hb'
                  clear hkk hb' A3 BV3 BS3
                  have ET : Hid (((([] ++ T1) ++ T2) ++ T3) ++ T4 ++ lineT [mstartT, m.start.from_, m.start.name] = T) := Lib.hid (by
                    rw [stLine_is, HTD.out]; simp [List.append_assoc])
                  rw [ET.out] at BV4
                  have CS := Lib.hid (Tryz.Builder_String_any (w.heap.size + 1) (w.heap.size + 1) T w8 BV4.out.is (by have := A4.out.size; omega))
                  go_wp2_with fail
                  refine CS.out.mono ?_
                  rintro e w9 ⟨rfl, hk9⟩
                  have K9 : Hid (Keep w w9) := Lib.hid (by
                    refine Below.trans A4.out.keep (Below.mono hk9 (Nat.le_succ _)))
                  clear hk9 CS
                  go_wp2_with fail
                  go_ret
                  exact ⟨rfl, K9.out⟩
end Go.Proofs.YteddflbidafebaaGreatDoor
