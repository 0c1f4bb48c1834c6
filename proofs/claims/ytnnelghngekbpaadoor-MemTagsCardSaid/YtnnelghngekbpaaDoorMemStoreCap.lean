/- The reference's StoreCap. -/
import Derived.Test.YtnnelghngekbpaaDoorMemCap2
namespace Go.Proofs.YtnnelghngekbpaaDoor
set_option linter.unusedVariables false
set_option linter.unusedSimpArgs false
open Go.RowKit
/-- What LoadCap tells of a place. -/
def granV (L : Nat) (a : Int) : Value := if reachB a 16 L = true then (if a % 16 = 0 then okV else alignV a) else rangeV a
set_option maxRecDepth 100000 in
set_option maxHeartbeats 1000000 in
theorem rstoreCap_bad (p gb gt cb ct : Nat) (bs : List Int) (ts : List Bool) (a : Int) (ha : -9223372036854775808 ≤ a ∧ a ≤ 9223372036854775807) (t : Bool) (b' p' a' m' y' : Int) (w : World) (h : RMem w p gb gt cb ct bs ts) (hr : ¬ (reachB a 16 bs.length = true ∧ a % 16 = 0)) :
    Calls Tryd.prog 14 #[.pointer (some ⟨p, 0, none⟩), .int .i64 a, .agg #[.bool t, .int .u32 b', .int .u32 p', .int .u32 a', .int .u16 m', .int .u16 y']] w fun e w' => e = .returned (granV bs.length a) ∧ Keep w w' := by
  have C := Lib.hid (fun W (k : Keep w W) => rloadCap_any p gb gt cb ct bs ts a ha W (h.keep k))
  obtain ⟨c, n, hn, e1, e2⟩ : ∃ (c : Value) (n : Int), (n = 6 ∨ n = 5) ∧ loadCapV bs ts a = .tuple #[zeroV, .agg #[.string ⟨#[109, 101, 109]⟩, .int .i64 a, .int .i64 n]] ∧ granV bs.length a = .agg #[.string ⟨#[109, 101, 109]⟩, .int .i64 a, .int .i64 n] := by
    unfold loadCapV granV
    by_cases h1 : reachB a 16 bs.length = true
    · have h2 : ¬ a % 16 = 0 := fun h2 => hr ⟨h1, h2⟩
      rw [if_pos h1, if_pos h1, if_neg h2, if_neg h2]
      exact ⟨zeroV, 5, .inr rfl, rfl, rfl⟩
    · rw [if_neg h1, if_neg h1]
      exact ⟨zeroV, 6, .inl rfl, rfl, rfl⟩
  rw [e1] at C
  rw [e2]
  have n0 : ¬ n = 0 := by omega
  clear e1 e2 hr ha hn h
  unfold zeroV at C
  go_enter Tryd.func14, Tryd.ntmps14
  go_wp2_with fail
  refine (C.out _ (((Keep.refl _).alloc _).alloc _)).mono ?_
  rintro e w1 ⟨rfl, hk1⟩
  have B1 : Box w1 (w.heap.size + 1) _ := (Box.new1 _ _ _ _).keep hk1
  have B0 : Box w1 w.heap.size _ := ((Box.new _ _ _).alloc _).keep hk1
  have c1 := B1.cells
  have f1 := B1.thawed
  have c0 := B0.cells
  have l1 := B1.lt
  have l0 := B0.lt
  have ne1 : w.heap.size + 1 ≠ w1.heap.size := by omega
  have lt1 : w.heap.size + 1 < w1.heap.size + 1 := by omega
  have ne2 : w.heap.size ≠ w1.heap.size := by omega
  have lt2 : w.heap.size < w1.heap.size + 1 := by omega
  have ne3 : w.heap.size + 1 ≠ w1.heap.size + 1 := by omega
  go_wp2_with fail
  refine bodyPost_ret (v := .agg #[.string ⟨#[109, 101, 109]⟩, .int .i64 a, .int .i64 n]) (by simp [results, Tryd.results14, go_sem, c1, l1, lt1, ne1, ne3]) rfl ⟨rfl, ?_⟩
  repeat (first | with_reducible refine Keep.setCell ?_ (by simp) _ | with_reducible refine Keep.alloc ?_ _)
  exact (((Keep.refl _).alloc _).alloc _).trans hk1
theorem offAt_16 (ts : List Bool) (A : Nat) (h : A % 16 = 0) : ∀ n, 0 < n → n ≤ 16 → offAt ts A n = ts.set (A / 16) false := by
  intro n
  induction n with
  | zero => intro h0; omega
  | succ n ih =>
    intro _ h2
    rw [offAt_step]
    have e : (A + n) / 16 = A / 16 := by omega
    rw [e]
    rcases Nat.eq_zero_or_pos n with rfl | hn
    · rfl
    · rw [ih hn (by omega), List.set_set]
/-- A memory whose one tag is set. -/
theorem RMem.tag {w : World} {p gb gt cb ct : Nat} {bs : List Int} {ts : List Bool} (h : RMem w p gb gt cb ct bs ts) (j : Nat) (t : Bool) :
    RMem (w.setCell ⟨gt, j, none⟩ (.bool t)) p gb gt cb ct bs (ts.set j t) :=
  { h with
    box := by rw [List.length_set]; exact h.box.other h.pt _
    bytes := h.bytes.other h.bt _
    tags := by rw [bls_set]; exact h.tags.set j _
    len := by rw [List.length_set]; exact h.len
    capt := by rw [List.length_set]; exact h.capt }
/-- Put's row lies where a Store may read it. -/
theorem rput_lies (t : Bool) (b p a m y : Int) (hb : 0 ≤ b ∧ b ≤ 4294967295) (hp : 0 ≤ p ∧ p ≤ 4294967295) (ha : 0 ≤ a ∧ a ≤ 4294967295) (hm : 0 ≤ m ∧ m ≤ 65535) (hy : 0 ≤ y ∧ y ≤ 65535) (w : World) (S : Nat → Prop) (hS : ∀ k, S k → k < w.heap.size) :
    Calls Tryd.prog 37 #[.agg #[.bool t, .int .u32 b, .int .u32 p, .int .u32 a, .int .u16 m, .int .u16 y]] w fun e w' => ∃ v, e = .returned v ∧ Lies w' v (putL b p a m y) S ∧ Keep w w' := by
  refine (rput_any t b p a m y hb hp ha hm hy w).mono ?_
  rintro e w' ⟨g, cap, rfl, ho, hk⟩
  have h := own_cells (l := putL b p a m y) ho rfl (by rw [putL_length]; decide)
  refine ⟨_, rfl, ⟨_, cap, rfl, h.2.1, by have := h.2.2.1; unfold maxLen at this; omega, fun j hj => ⟨g, 0, rfl, fun hs => ?_, h.2.2.2.2, by rw [Nat.zero_add]; exact h.1 j hj⟩⟩, hk⟩
  have := hS g hs
  have := h.2.2.2.1
  omega
theorem putL_bytes (b p a m y : Int) : ∀ z ∈ putL b p a m y, IsByte z := by
  intro z h
  simp only [putL, List.mem_append] at h
  rcases h with h | h | h | h | h
  · exact b4_bytes b z h
  · exact b4_bytes p z h
  · exact b4_bytes a z h
  · exact b2_bytes m z h
  · exact b2_bytes y z h
set_option maxRecDepth 100000 in
set_option maxHeartbeats 1000000 in
theorem rstoreCap_good (p gb gt cb ct : Nat) (bs : List Int) (ts : List Bool) (A : Nat) (hA : A + 16 ≤ bs.length) (hm : A % 16 = 0) (t : Bool) (b' p' a' m' y' : Int) (hb : 0 ≤ b' ∧ b' ≤ 4294967295) (hp : 0 ≤ p' ∧ p' ≤ 4294967295) (ha : 0 ≤ a' ∧ a' ≤ 4294967295) (hmm : 0 ≤ m' ∧ m' ≤ 65535) (hy : 0 ≤ y' ∧ y' ≤ 65535) (w : World) (h : RMem w p gb gt cb ct bs ts) :
    Calls Tryd.prog 14 #[.pointer (some ⟨p, 0, none⟩), .int .i64 A, .agg #[.bool t, .int .u32 b', .int .u32 p', .int .u32 a', .int .u16 m', .int .u16 y']] w fun e w' => e = .returned okV ∧ RMem w' p gb gt cb ct (putAt bs A (putL b' p' a' m' y')) (ts.set (A / 16) t) ∧ KeepBut (ownsM gb gt) w w' := by
  have C := Lib.hid (fun W (k : Keep w W) => rloadCap_good p gb gt cb ct bs ts A hA hm W (h.keep k))
  have CP := Lib.hid (fun W S hS => rput_lies t b' p' a' m' y' hb hp ha hmm hy W S hS)
  have hlen := h.len
  have HP := Lib.hid (show A + (putL b' p' a' m' y').length ≤ bs.length from hA)
  have LB := Lib.hid h.bytes.lt
  have LT := Lib.hid h.tags.lt
  have LP := Lib.hid h.box.lt
  obtain ⟨x1, x2, x3, x4, x5, hx⟩ : ∃ x1 x2 x3 x4 x5 : Int, capV (ts.getD (A / 16) false) (sixteen bs A) = .agg #[.bool (ts.getD (A / 16) false), .int .u32 x1, .int .u32 x2, .int .u32 x3, .int .u16 x4, .int .u16 x5] := ⟨_, _, _, _, _, rfl⟩
  rw [hx] at C
  clear hx
  have HM := Lib.hid h
  have hM := h.most
  unfold okV wrongV at C ⊢
  have m0 : (0 : Int) ≤ (A : Int) := Int.natCast_nonneg _
  have CS := Lib.hid (fun v W (hR : RMem W p gb gt cb ct bs ts) (hv : Lies W v (putL b' p' a' m' y') (ownsM gb gt)) => rstore_ok p gb gt cb ct bs ts A v (putL b' p' a' m' y') (putL_bytes b' p' a' m' y') HP.out W hR hv)
  clear h
  go_enter Tryd.func14, Tryd.ntmps14
  go_wp2_with fail
  refine (C.out _ (((Keep.refl _).alloc _).alloc _)).mono ?_
  rintro e w1 ⟨rfl, hk1⟩
  have B1 : Box w1 (w.heap.size + 1) _ := (Box.new1 _ _ _ _).keep hk1
  have B0 : Box w1 w.heap.size _ := ((Box.new _ _ _).alloc _).keep hk1
  have c1 := B1.cells
  have f1 := B1.thawed
  have c0 := B0.cells
  have l1 := B1.lt
  have l0 := B0.lt
  have ne1 : w.heap.size + 1 ≠ w1.heap.size := by omega
  have lt1 : w.heap.size + 1 < w1.heap.size + 1 := by omega
  have ne2 : w.heap.size ≠ w1.heap.size := by omega
  have lt2 : w.heap.size < w1.heap.size + 1 := by omega
  have ne3 : w.heap.size + 1 ≠ w1.heap.size + 1 := by omega
  go_wp2_with fail
  refine (CP.out _ (ownsM gb gt) ?_).mono ?_
  · rintro k (rfl | rfl) <;> simp <;> have := LB.out <;> have := LT.out <;> omega
  rintro e w2 ⟨v, rfl, hv, hk2⟩
  have K2 : Keep w w2 := ((((((Keep.refl _).alloc _).alloc _).trans hk1).alloc _).alloc _).trans hk2
  have B02 : Box w2 w.heap.size _ := ((B0.alloc _).alloc _).keep hk2
  have B12 : Box w2 (w.heap.size + 1) _ := ((B1.alloc _).alloc _).keep hk2
  have HK2 := Lib.hid K2
  have HV := Lib.hid hv
  clear hv hk2 hk1 c0 c1 f1 l0 l1 ne1 lt1 ne2 lt2 ne3 B0 B1 K2
  go_wp2_with fail
  refine (CS.out v w2 (HM.out.keep HK2.out) HV.out).mono ?_
  rintro e w3 ⟨rfl, hR3, hB3⟩
  have lb0 := LB.out
  have lt0 := LT.out
  have lp0 := LP.out
  have B03 := B02.but hB3 (by rintro (h | h) <;> omega)
  have B13 := B12.but hB3 (by rintro (h | h) <;> omega)
  have hbl : (putAt bs A (putL b' p' a' m' y')).length = bs.length := putAt_length _ _ _
  have htl : (offAt ts A (putL b' p' a' m' y').length).length = ts.length := offAt_length _ _ _
  have HT := Lib.hid (offAt_16 ts A hm (putL b' p' a' m' y').length (by rw [putL_length]; decide) (by rw [putL_length]; decide))
  obtain ⟨bk, hbk⟩ : ∃ bk, bk = putAt bs A (putL b' p' a' m' y') := ⟨_, rfl⟩
  obtain ⟨tk, htk⟩ : ∃ tk, tk = offAt ts A (putL b' p' a' m' y').length := ⟨_, rfl⟩
  rw [← hbk] at hbl hR3
  rw [← htk] at htl hR3 HT
  have HBK := Lib.hid hbk
  have HR3 := Lib.hid hR3
  have HB3 := Lib.hid hB3
  have p3 := hR3.box.cells
  have l3 := hR3.box.lt
  rw [hbl, htl] at p3
  have at1 : A / 16 < ts.length := by omega
  have at0 : (0 : Int) ≤ (A : Int) / 16 := by omega
  have at3 : (A : Int) / 16 < (ts.length : Int) := by omega
  have at2 : ((A : Int) / 16).toNat = A / 16 := by omega
  have g2 : w3.cell? ⟨gt, A / 16, none⟩ = some (.bool (tk.getD (A / 16) false)) := by
    rw [hR3.tags.cells]
    have : A / 16 < tk.length := by rw [htl]; omega
    simp [bls, List.getD_eq_getElem?_getD, List.getElem?_eq_getElem this]
  have gf := hR3.tags.thawed
  have c0 := B03.cells
  have c1 := B13.cells
  have f1 := B13.thawed
  have n1 := hR3.pt
  have n2 := hR3.bt
  have n3 : w.heap.size ≠ gt := by omega
  have n4 : w.heap.size + 1 ≠ gt := by omega
  have n5 : p ≠ w.heap.size + 1 := by omega
  have n6 : gb ≠ w.heap.size + 1 := by omega
  have n7 : gt ≠ w.heap.size + 1 := by omega
  have hbo : IsByte 0 := by unfold IsByte; decide
  clear htk hR3 hB3 hbk HP
  go_wp2_with fail
  clear c0 g2 gf c1 f1 p3
  have wA : IntKind.i64.wrap ((A : Int) / 16) = (A : Int) / 16 := by rw [IntKind.wrap_i64]; omega
  refine region_grows_tail 9 (Keep _) (by kernel_rfl) (by kernel_rfl) (Keep.refl _).drew ?_
  simp only [List.take_succ_cons, List.take_zero, List.drop_succ_cons, List.drop_zero]
  repeat (first
    | (apply text_step (by rfl)
       · intro W hW
         have c1 := (HR3.out.box.keep hW).cells
         rw [hbl, htl] at c1
         have c2 := (B03.keep hW).cells
         go_simp
         exact ⟨rfl, hW⟩
       go_simp))
  apply text_end
  intro W hW
  have HRW := Lib.hid (HR3.out.keep hW)
  have HBW := Lib.hid (HB3.out.trans (hW.but _))
  have g2 : W.cell? ⟨gt, A / 16, none⟩ = some (.bool (tk.getD (A / 16) false)) := by
    rw [HRW.out.tags.cells]
    have : A / 16 < tk.length := by rw [htl]; omega
    simp [bls, List.getD_eq_getElem?_getD, List.getElem?_eq_getElem this]
  have gf := HRW.out.tags.thawed
  have B1W := B13.keep hW
  have c1 := B1W.cells
  have f1 := B1W.thawed
  have lW := B1W.lt
  clear hW
  go_wp2_with fail
  refine bodyPost_ret (v := .agg #[.string ⟨#[]⟩, .int .i64 0, .int .i64 0]) (by simp [results, Tryd.results14, go_sem, c1]) rfl ⟨rfl, ?_, ?_⟩
  · have hR := HRW.out.tag (A / 16) t
    rw [HT.out, List.set_set, HBK.out] at hR
    exact ((hR.other n5 n6 n7 _).other n5 n6 n7 _).other n5 n6 n7 _
  · exact ((((HK2.out.but _).trans HBW.out).setCell (.inl (.inr rfl)) _).setCell (.inr (by simp)) _ |>.setCell (.inr (by simp)) _).setCell (.inr (by simp)) _
/-- StoreCap: the sixteen bytes and the tag; or the error, and nothing changes. -/
theorem rstoreCap_any (p gb gt cb ct : Nat) (bs : List Int) (ts : List Bool) (a : Int) (ha0 : -9223372036854775808 ≤ a ∧ a ≤ 9223372036854775807) (t : Bool) (b' p' a' m' y' : Int) (hb : 0 ≤ b' ∧ b' ≤ 4294967295) (hp : 0 ≤ p' ∧ p' ≤ 4294967295) (ha : 0 ≤ a' ∧ a' ≤ 4294967295) (hmm : 0 ≤ m' ∧ m' ≤ 65535) (hy : 0 ≤ y' ∧ y' ≤ 65535) (w : World) (h : RMem w p gb gt cb ct bs ts) :
    Calls Tryd.prog 14 #[.pointer (some ⟨p, 0, none⟩), .int .i64 a, .agg #[.bool t, .int .u32 b', .int .u32 p', .int .u32 a', .int .u16 m', .int .u16 y']] w fun e w' =>
      (¬ (reachB a 16 bs.length = true ∧ a % 16 = 0) ∧ e = .returned (granV bs.length a) ∧ Keep w w') ∨
      ((reachB a 16 bs.length = true ∧ a % 16 = 0) ∧ e = .returned okV ∧ RMem w' p gb gt cb ct (putAt bs a.toNat (putL b' p' a' m' y')) (ts.set (a.toNat / 16) t) ∧ KeepBut (ownsM gb gt) w w') := by
  by_cases hr : reachB a 16 bs.length = true ∧ a % 16 = 0
  · obtain ⟨h1, h2⟩ := hr
    obtain ⟨r0, _, r2⟩ := reachB_true h1
    obtain ⟨A, rfl⟩ := Int.eq_ofNat_of_zero_le r0
    simp only [Int.toNat_natCast]
    exact (rstoreCap_good p gb gt cb ct bs ts A (by omega) (by omega) t b' p' a' m' y' hb hp ha hmm hy w h).mono fun e w' h => .inr ⟨⟨h1, h2⟩, h⟩
  · exact (rstoreCap_bad p gb gt cb ct bs ts a ha0 t b' p' a' m' y' w h hr).mono fun e w' h => .inl ⟨hr, h⟩
end Go.Proofs.YtnnelghngekbpaaDoor
