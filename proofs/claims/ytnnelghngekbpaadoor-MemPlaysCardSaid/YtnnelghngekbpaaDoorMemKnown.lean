/- hasplaw4.known. -/
import Derived.Test.YtnnelghngekbpaaDoorDevMem
import Derived.Test.YtnnelghngekbpaaDoorCapEq
import Derived.WalkSpells
namespace Go.Proofs.YtnnelghngekbpaaDoor
set_option linter.unusedVariables false
set_option linter.unusedSimpArgs false
open Go.RowKit
set_option maxRecDepth 100000 in
set_option maxHeartbeats 2000000 in
theorem mknown_any (w : World) (hE : ErrT w) : Calls Tryd.prog 7 #[] w fun e w' => e = .returned (.bool true) ∧ Keep w w' := by
  have HE := Lib.hid hE
  clear hE
  go_enter Tryd.func7, Tryd.ntmps7
  go_wp2_with fail
  refine (dnew_good 64 4 (by decide) (by decide) (by decide) _ HE.out).mono ?_
  rintro e w1 ⟨m, O, rfl, hD, hk1, hO⟩
  have K1 := Lib.hid hk1
  have D1 := Lib.hid hD
  have O1 := Lib.hid hO
  clear hk1 hD hO
  unfold ptrV
  go_wp2_with fail
  refine (dnew_bad 17 (by unfold In64; decide) 5 (by decide) _ (HE.out.keep K1.out)).mono ?_
  rintro e w2 ⟨v, rfl, hv, hk2⟩
  have E2 := Lib.hid hv
  have K2 := Lib.hid (K1.out.trans hk2)
  have D2 := Lib.hid (D1.out.keep hk2)
  clear hv hk2 K1 D1
  go_wp2_with fail
  refine (tells_any v (sizeV 17 5) w2 E2.out (HE.out.keep K2.out)).mono ?_
  rintro e w3 ⟨rfl, hk3⟩
  have K3 := Lib.hid (K2.out.trans hk3)
  have D3 := Lib.hid (D2.out.keep hk3)
  clear hk3 K2 D2 E2
  go_wp2_with fail
  refine (croot_any 64 _).mono ?_
  rintro e w4 ⟨rfl, hk4⟩
  have K4 := Lib.hid (K3.out.trans hk4)
  have D4 := Lib.hid (D3.out.keep hk4)
  clear hk4 K3 D3
  go_wp2_with fail
  have BC4 : Box (w4.alloc (.cells #[.bool true, .int .u32 0, .int .u32 64, .int .u32 0, .int .u16 127, .int .u16 0] 39)) w4.heap.size #[.bool true, .int .u32 0, .int .u32 64, .int .u32 0, .int .u16 127, .int .u16 0] := Box.new _ _ _
  refine (dstoreCap_any 16 (by unfold In64; decide) true 0 64 0 127 0 (by decide) (by decide) (by decide) (by decide) (by decide) (D4.out.keep ((Keep.refl _).alloc _)) (HE.out.keep (K4.out.alloc _))).mono ?_
  rintro e w5 ⟨u, rfl, h⟩
  obtain ⟨rfl, hD, hB⟩ : u = .nilIface ∧ _ := by
    rcases h with ⟨hn, _⟩ | ⟨_, h⟩
    · exact absurd (by decide) hn
    · exact h
  clear h
  have K5 := Lib.hid (Keep.butNew (K4.out.alloc _) hB O1.out)
  have BC5 : Box w5 w4.heap.size #[.bool true, .int .u32 0, .int .u32 64, .int .u32 0, .int .u16 127, .int .u16 0] := BC4.but hB (fun ho => absurd (D4.out.lt _ ho) (by omega))
  obtain ⟨bs1, hbs1⟩ : ∃ bs1, bs1 = putAt (List.replicate 64 0) (16 : Int).toNat (putL 0 64 0 127 0) := ⟨_, rfl⟩
  obtain ⟨ts1, hts1⟩ : ∃ ts1, ts1 = (List.replicate 4 false).set ((16 : Int).toNat / 16) true := ⟨_, rfl⟩
  rw [← hbs1, ← hts1] at hD
  have D5 := Lib.hid hD
  have LC1 : lcapV bs1 ts1 16 = .agg #[.bool true, .int .u32 0, .int .u32 64, .int .u32 0, .int .u16 127, .int .u16 0] := by rw [hbs1, hts1]; rfl
  have LE1 : granV bs1.length 16 = okV := by rw [hbs1]; rfl
  have HB1 := Lib.hid hbs1
  have HT1 := Lib.hid hts1
  have NOC := Lib.hid (show ¬ O w4.heap.size from fun ho => absurd (D4.out.lt _ ho) (by omega))
  clear hB hD K4 D4 BC4 hbs1 hts1
  go_wp2_with fail
  refine (dloadCap_any 16 (by unfold In64; decide) D5.out (HE.out.keep K5.out)).mono ?_
  rintro e w6 ⟨hk6, u, rfl, hu⟩
  rw [LE1] at hu
  obtain rfl := hu.ok
  rw [LC1]
  have K6 := Lib.hid (K5.out.trans hk6)
  have D6 := Lib.hid (D5.out.keep hk6)
  have BC6 := BC5.keep hk6
  clear hu hk6 K5 D5 BC5 LC1 LE1
  go_wp2_with fail
  have BD6 : Box (w6.alloc (.cells #[.bool true, .int .u32 0, .int .u32 64, .int .u32 0, .int .u16 127, .int .u16 0] 39)) w6.heap.size #[.bool true, .int .u32 0, .int .u32 64, .int .u32 0, .int .u16 127, .int .u16 0] := Box.new _ _ _
  have BC6' := BC6.alloc (.cells #[.bool true, .int .u32 0, .int .u32 64, .int .u32 0, .int .u16 127, .int .u16 0] 39)
  refine (dtags_any (D6.out.keep ((Keep.refl _).alloc _))).mono ?_
  rintro e w7 ⟨tv, rfl, ho, hk7⟩
  have T1 : tagsAt ts1 ts1.length = [16] := by rw [HT1.out]; rfl
  rw [T1] at ho
  obtain ⟨tg, tcap, rfl, hc1, hc2, hg1, hg2, hgc⟩ := own_ints (l := [16]) ho rfl (by decide)
  have ht7 := hgc 0 (by decide)
  have K7 := Lib.hid ((K6.out.alloc _).trans hk7)
  have D7 := Lib.hid ((D6.out.keep ((Keep.refl _).alloc _)).keep hk7)
  have OL7 : Hid (∀ b, O b → b < w6.heap.size + 1) := Lib.hid (fun b hb => by have := (D6.out.keep ((Keep.refl _).alloc (.cells #[.bool true, .int .u32 0, .int .u32 64, .int .u32 0, .int .u16 127, .int .u16 0] 39))).lt b hb; simpa using this)
  have BC7 := BC6'.keep hk7
  have BD7 := BD6.keep hk7
  have lc7 := BC7.lt
  have ld7 := BD7.lt
  have hg1' : w6.heap.size + 1 ≤ tg := by simpa using hg1
  have OC : Hid (¬ O w4.heap.size ∧ ¬ O w6.heap.size ∧ ¬ O tg) := Lib.hid ⟨fun h => NOC.out h, fun h => by have := D6.out.lt _ h; omega, fun h => by have := OL7.out _ h; omega⟩
  clear ho hgc hk7 K6 D6 BC6 BC6' BD6 T1 hg1
  go_wp2_with fail
  refine (dtwin_any D7.out).mono ?_
  rintro e w8 ⟨m2, O2, rfl, hD2, hk8, hO2⟩
  have ht8 := hk8.cellOf ht7
  have K8 := Lib.hid (K7.out.trans hk8)
  have D8 := Lib.hid (D7.out.keep hk8)
  have U8 := Lib.hid hD2
  have O28 : Hid (∀ b, O2 b → ¬ O b) := Lib.hid (fun b h2 h1 => by have := hO2 b h2; have := D7.out.lt b h1; omega)
  have BC8 := BC7.keep hk8
  have BD8 := BD7.keep hk8
  have lg8 : tg < w8.heap.size := Nat.lt_of_lt_of_le hg2 hk8.size
  clear hk8 hD2 hO2 ht7 K7 D7 BC7 BD7 lc7 ld7
  unfold ptrV
  go_wp2_with fail
  have BN : Box (w8.alloc (.cells #[.int .u8 9] 5)) w8.heap.size #[.int .u8 9] := Box.new _ _ _
  have LI : Lies (w8.alloc (.cells #[.int .u8 9] 5)) (.slice (some ⟨w8.heap.size, 0, none⟩) 1 1) [9] O := by
    refine ⟨_, 1, rfl, by decide, by decide, fun k hk => ⟨w8.heap.size, 0, rfl, fun ho => ?_, by simp, ?_⟩⟩
    · have := D8.out.lt _ ho; omega
    · obtain rfl : k = 0 := by simp at hk; omega
      rw [BN.cells]; rfl
  refine (dstore_any 31 (by unfold In64; decide) _ [9] (by intro z hz; simp at hz; subst hz; unfold IsByte; decide) (D8.out.keep ((Keep.refl _).alloc _)) LI).mono ?_
  rintro e w9 ⟨u, rfl, h⟩
  have HL1 : bs1.length = 64 := by rw [HB1.out]; rfl
  obtain ⟨rfl, hD, hB⟩ : u = .nilIface ∧ _ := by
    rcases h with ⟨hn, _⟩ | ⟨_, h⟩
    · rw [HL1] at hn; exact absurd hn (by decide)
    · exact h
  clear h LI BN HL1
  have K9 := Lib.hid (Keep.butNew (K8.out.alloc _) hB O1.out)
  have BC9 := (BC8.alloc (.cells #[.int .u8 9] 5)).but hB OC.out.1
  have BD9 := (BD8.alloc (.cells #[.int .u8 9] 5)).but hB OC.out.2.1
  have ht9 : w9.cell? ⟨tg, 0, none⟩ = some (.int .i64 16) := by
    rw [World.cell?_of_block (hB.block tg (by simp; omega) OC.out.2.2), World.cell?_alloc_past _ _ _ lg8]
    exact ht8
  have lg9 : tg < w9.heap.size := Nat.lt_of_lt_of_le (show tg < (w8.alloc (.cells #[.int .u8 9] 5)).heap.size by simp; omega) hB.size
  have U9 := Lib.hid ((U8.out.keep ((Keep.refl _).alloc (.cells #[.int .u8 9] 5))).but hB O28.out)
  obtain ⟨bs2, hbs2⟩ : ∃ bs2, bs2 = putAt bs1 (31 : Int).toNat [9] := ⟨_, rfl⟩
  obtain ⟨ts2, hts2⟩ : ∃ ts2, ts2 = offAt ts1 (31 : Int).toNat [(9 : Int)].length := ⟨_, rfl⟩
  rw [← hbs2, ← hts2] at hD
  have D9 := Lib.hid hD
  rw [HB1.out] at hbs2
  rw [HT1.out] at hts2
  have HB2 := Lib.hid hbs2
  have HT2 := Lib.hid hts2
  clear hB hD hbs2 hts2 K8 D8 U8 BC8 BD8 ht8 lg8
  go_wp2_with fail
  have LC2 : lcapV bs2 ts2 16 = .agg #[.bool false, .int .u32 0, .int .u32 64, .int .u32 0, .int .u16 127, .int .u16 2304] := by rw [HB2.out, HT2.out]; rfl
  have LE2 : granV bs2.length 16 = okV := by rw [HB2.out]; rfl
  refine (dloadCap_any 16 (by unfold In64; decide) D9.out (HE.out.keep K9.out)).mono ?_
  rintro e w10 ⟨hk10, u, rfl, hu⟩
  rw [LE2] at hu
  obtain rfl := hu.ok
  rw [LC2]
  have K10 := Lib.hid (K9.out.trans hk10)
  have D10 := Lib.hid (D9.out.keep hk10)
  have U10 := Lib.hid (U9.out.keep hk10)
  have BC10 := BC9.keep hk10
  have BD10 := BD9.keep hk10
  have ht10 := hk10.cellOf ht9
  have lg10 := Nat.lt_of_lt_of_le lg9 hk10.size
  clear hu hk10 K9 D9 U9 BC9 BD9 ht9 LC2 LE2 lg9
  go_wp2_with fail
  have BX10 : Box (w10.alloc (.cells #[.bool false, .int .u32 0, .int .u32 64, .int .u32 0, .int .u16 127, .int .u16 2304] 39)) w10.heap.size #[.bool false, .int .u32 0, .int .u32 64, .int .u32 0, .int .u16 127, .int .u16 2304] := Box.new _ _ _
  have HL2 : bs2.length = 64 := by rw [HB2.out]; rfl
  have HX2 : (bs2.drop (31 : Int).toNat).take (1 : Int).toNat = [9] := by rw [HB2.out]; rfl
  refine (dload_any 31 1 (by unfold In64; decide) (by unfold In64; decide) (D10.out.keep ((Keep.refl _).alloc _))).mono ?_
  rintro e w11 ⟨hk11, s, u, rfl, h⟩
  obtain ⟨rfl, hl⟩ : u = .nilIface ∧ Lies w11 s [9] _ := by
    rcases h with ⟨hn, _⟩ | ⟨_, h1, h2⟩
    · rw [HL2] at hn; exact absurd hn (by decide)
    · rw [HX2] at h2; exact ⟨h1, h2⟩
  obtain ⟨ad, cs, rfl, -, -, hl⟩ := hl
  obtain ⟨sb, so, rfl, -, -, hs11⟩ := hl 0 (by decide)
  have hs11' : w11.cell? ⟨sb, so, none⟩ = some (.int .u8 9) := hs11
  have K11 := Lib.hid ((K10.out.alloc _).trans hk11)
  have D11 := Lib.hid ((D10.out.keep ((Keep.refl _).alloc _)).keep hk11)
  have U11 := Lib.hid ((U10.out.keep ((Keep.refl _).alloc _)).keep hk11)
  have BC11 := (BC10.alloc _).keep hk11
  have BD11 := (BD10.alloc _).keep hk11
  have BX11 := BX10.keep hk11
  have ht11 : w11.cell? ⟨tg, 0, none⟩ = some (.int .i64 16) := hk11.cellOf (by rw [World.cell?_alloc_past _ _ _ lg10]; exact ht10)
  clear h hl hs11 hk11 K10 D10 U10 BC10 BD10 BX10 ht10 lg10 HX2
  go_wp2_with fail
  refine (dload_any 60 5 (by unfold In64; decide) (by unfold In64; decide) D11.out).mono ?_
  rintro e w12 ⟨hk12, s, u, rfl, h⟩
  obtain ⟨hu, hl⟩ : ErrV w12 u (rangeV 60) ∧ Lies w12 s [] _ := by
    rcases h with ⟨_, h1, h2⟩ | ⟨hn, _⟩
    · exact ⟨h1, h2⟩
    · rw [HL2] at hn; exact absurd hn (by decide)
  have K12 := Lib.hid (K11.out.trans hk12)
  have D12 := Lib.hid (D11.out.keep hk12)
  have U12 := Lib.hid (U11.out.keep hk12)
  have BC12 := BC11.keep hk12
  have BD12 := BD11.keep hk12
  have BX12 := BX11.keep hk12
  have ht12 := hk12.cellOf ht11
  have hs12 := hk12.cellOf hs11'
  have E12 := Lib.hid hu
  have HSZ : (decide (bs1 = bs2) && decide (ts1 = ts2)) = false := by
    have h1 : ts1.getD 1 false = true := by rw [HT1.out]; rfl
    have h2 : ts2.getD 1 false = false := by rw [HT2.out]; rfl
    have : ts1 ≠ ts2 := fun h => by rw [h, h2] at h1; cases h1
    simp [this]
  have HG1 : (decide (0 ≤ (31 : Int)) && decide ((31 : Int) < bs1.length) && ts1.getD ((31 : Int).toNat / 16) false) = true := by rw [HB1.out, HT1.out]; rfl
  have HG2 : (decide (0 ≤ (31 : Int)) && decide ((31 : Int) < bs2.length) && ts2.getD ((31 : Int).toNat / 16) false) = false := by rw [HB2.out, HT2.out]; rfl
  have CSz := Lib.hid (fun W (k : Keep w12 W) => dsize_any (D12.out.keep k))
  have CT1 := Lib.hid (fun W (k : Keep w12 W) => dtag_any 31 (by unfold In64; decide) (U12.out.keep k))
  have CT2 := Lib.hid (fun W (k : Keep w12 W) => dtag_any 31 (by unfold In64; decide) (D12.out.keep k))
  have CS1 := Lib.hid (fun W (k : Keep w12 W) => dsame_any (U12.out.keep k) (D12.out.keep k))
  have CS2 := Lib.hid (fun W (k : Keep w12 W) => dsame_any (U12.out.keep k) (U12.out.keep k))
  have CTe := Lib.hid (fun W (k : Keep w12 W) => tells_any u (rangeV 60) W (E12.out.keep k) (HE.out.keep (K12.out.trans k)))
  rw [bad_err] at CTe
  rw [HL2] at CSz
  rw [HG1] at CT1
  rw [HG2] at CT2
  rw [HSZ] at CS1
  simp only [decide_true, Bool.and_true] at CS2
  unfold ptrV at CSz CT1 CT2 CS1 CS2
  have hE : ∀ W, (Op.equalIn 10000 39 (.agg #[.bool true, .int .u32 0, .int .u32 64, .int .u32 0, .int .u16 127, .int .u16 0]) (.agg #[.bool true, .int .u32 0, .int .u32 64, .int .u32 0, .int .u16 127, .int .u16 0])).run Tryd.prog W = .ok true W := fun W => by
    rw [eqin_cap]
    rfl
  clear h hu hl hk12 K11 D11 U11 BC11 BD11 BX11 ht11 hs11' HL2 HSZ HG1 HG2
  have lg12 : tg < w12.heap.size := World.block_lt_of_cell? _ _ ht12
  have ls12 : sb < w12.heap.size := World.block_lt_of_cell? _ _ hs12
  have KA : Keep w12 w12 := Keep.refl _
  have cC := BC12.cells
  have cD := BD12.cells
  have cX := BX12.cells
  go_wp2_with (first
    | (go_at_call 28; with_reducible refine (CSz.out _ KA).mono ?_; rintro e W' ⟨rfl, hk⟩; replace KA := KA.trans hk; replace BX12 := BX12.keep hk; replace cX := BX12.cells; replace hs12 := hk.cellOf hs12; clear hk)
    | (go_at_call 10; with_reducible refine (CTe.out _ KA).mono ?_; rintro e W' ⟨rfl, hk⟩; replace KA := KA.trans hk; replace BX12 := BX12.keep hk; replace cX := BX12.cells; replace hs12 := hk.cellOf hs12; clear hk)
    | (go_at_call 23; with_reducible refine (CT1.out _ KA).mono ?_; rintro e W' ⟨rfl, hk⟩; replace KA := KA.trans hk; replace BX12 := BX12.keep hk; replace cX := BX12.cells; replace hs12 := hk.cellOf hs12; clear hk)
    | (go_at_call 23; with_reducible refine (CT2.out _ KA).mono ?_; rintro e W' ⟨rfl, hk⟩; replace KA := KA.trans hk; replace BX12 := BX12.keep hk; replace cX := BX12.cells; replace hs12 := hk.cellOf hs12; clear hk)
    | (go_at_call 22; with_reducible refine (CS1.out _ KA).mono ?_; rintro e W' ⟨rfl, hk⟩; replace KA := KA.trans hk; replace BX12 := BX12.keep hk; replace cX := BX12.cells; replace hs12 := hk.cellOf hs12; clear hk)
    | (go_at_call 22; with_reducible refine (CS2.out _ KA).mono ?_; rintro e W' ⟨rfl, hk⟩; replace KA := KA.trans hk; replace BX12 := BX12.keep hk; replace cX := BX12.cells; replace hs12 := hk.cellOf hs12; clear hk))
  go_ret
  exact ⟨rfl, K12.out.trans KA⟩
end Go.Proofs.YtnnelghngekbpaaDoor
