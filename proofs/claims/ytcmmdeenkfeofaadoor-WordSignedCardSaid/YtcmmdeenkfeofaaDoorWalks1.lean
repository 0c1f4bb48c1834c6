/- The walks of layer 1's five laws. -/
import Derived.Test.YtcmmdeenkfeofaaDoorKnown
namespace Go.Proofs.YtcmmdeenkfeofaaDoor
set_option linter.unusedVariables false
set_option linter.unusedSimpArgs false
open Go.RowKit

def deBruijn64 : List Int := [0, 1, 56, 2, 57, 49, 28, 3, 61, 58, 42, 50, 38, 29, 17, 4, 62, 47, 59, 36, 45, 43, 51, 22, 53, 39, 33, 30, 24, 18, 12, 5, 63, 55, 48, 27, 60, 41, 37, 16, 46, 35, 44, 21, 52, 32, 23, 11, 54, 26, 40, 15, 34, 20, 31, 10, 25, 14, 19, 9, 13, 8, 7, 6]
/-- It answers true; what was in memory stays. -/
def TrueGrown (w : World) (e : Ending) (w' : World) : Prop := e = .returned (.bool true) ∧ Grown w w'
theorem wordDo_walk (op : ByteArray) (a b : Int) (ha : 0 ≤ a ∧ a ≤ 4294967295) (hb : 0 ≤ b ∧ b ≤ 4294967295) (w : World) (hT : w.cell? ⟨2, 15, none⟩ = some (.int .u8 4)) :
    Calls Tryd.prog 3 #[.string op, .int .u32 a, .int .u32 b] w (TrueGrown w) := by
  have hw : 2 < w.heap.size := World.block_lt_of_cell? _ _ hT
  have ht := Lib.hid hT
  clear hT
  obtain ⟨h0, h1⟩ := ha
  obtain ⟨h2, h3⟩ := hb
  have h1' : a < 4294967296 := by omega
  have h3' : b < 4294967296 := by omega
  by_cases hs : 50 < op.size
  · go_enter Tryd.func3, Tryd.ntmps3
    go_wp2_with (go_at_call 8; refine (known_any _ ht.out hw).mono ?_; rintro e w' ⟨o, rfl, rfl⟩)
    go_ret
    exact ⟨rfl, (Grown.refl _).alloc _ _⟩
  · cases hk : doOk op <;> cases hk2 : holdsOk op
    all_goals
      have HK := Lib.hid hk
      have HK2 := Lib.hid hk2
      clear hk hk2
      go_enter Tryd.func3, Tryd.ntmps3
      go_wp2_with (first
        | (go_at_call 8; refine (known_any _ ht.out hw).mono ?_; rintro e w' ⟨o, rfl, rfl⟩)
        | (go_at_call 9; first | (refine (do_ok op a b _ h0 h1' h2 h3' HK.out).mono ?_; rintro e w' ⟨rfl, rfl⟩) | (refine (do_no op a b _ h0 h1' h2 h3' HK.out).mono ?_; rintro e w' ⟨rfl, rfl⟩))
        | (go_at_call 10; first | (refine (refDo_ok op a b _ h0 h1' h2 h3' HK.out).mono ?_; rintro e w' ⟨rfl, rfl⟩) | (refine (refDo_no op a b _ h0 h1' h2 h3' HK.out).mono ?_; rintro e w' ⟨rfl, rfl⟩))
        | (go_at_call 11; first | (refine (holds_ok op a b _ h0 h1' h2 h3' HK2.out).mono ?_; rintro e w' ⟨rfl, rfl⟩) | (refine (holds_no op a b _ h0 h1' h2 h3' HK2.out).mono ?_; rintro e w' ⟨rfl, rfl⟩))
        | (go_at_call 12; first | (refine (refHolds_ok op a b _ h0 h1' h2 h3' HK2.out).mono ?_; rintro e w' ⟨rfl, rfl⟩) | (refine (refHolds_no op a b _ h0 h1' h2 h3' HK2.out).mono ?_; rintro e w' ⟨rfl, rfl⟩))
        | (go_at_call 13; refine (is_same 7 _).mono ?_; rintro e w' ⟨rfl, rfl⟩))
      go_ret
      exact ⟨rfl, (Grown.refl _).alloc _ _⟩
theorem wordSigned_walk (v n : Int) (ha : 0 ≤ v ∧ v ≤ 4294967295) (hb : -9223372036854775808 ≤ n ∧ n ≤ 9223372036854775807) (w : World) (hT : w.cell? ⟨2, 15, none⟩ = some (.int .u8 4)) :
    Calls Tryd.prog 4 #[.int .u32 v, .int .i64 n] w (TrueGrown w) := by
  have hw : 2 < w.heap.size := World.block_lt_of_cell? _ _ hT
  obtain ⟨h0, h1⟩ := ha
  obtain ⟨h2, h3⟩ := hb
  obtain ⟨V, rfl⟩ := Int.eq_ofNat_of_zero_le h0
  have hV : V < 4294967296 := by omega
  have h1' : (V : Int) < 4294967296 := by omega
  have hsz : (textOf V).size = 10 := by simp [textOf, ByteArray.size, hexLow_length]
  have T1 : ∀ o : Array Value, Hid ((w.alloc (.cells o 74)).cell? ⟨2, 15, none⟩ = some (.int .u8 4)) := fun o => Lib.hid (by rw [World.cell?_alloc_past _ _ _ hw]; exact hT)
  have T2 : ∀ o p : Array Value, Hid (((w.alloc (.cells o 74)).alloc (.cells p 74)).cell? ⟨2, 15, none⟩ = some (.int .u8 4)) := fun o p => Lib.hid (by rw [World.cell?_alloc_past _ _ _ (by simp; omega)]; exact (T1 o).out)
  have ht := Lib.hid hT
  clear hT
  go_enter Tryd.func4, Tryd.ntmps4
  go_wp2_with fail
  refine (known_any _ ht.out hw).mono ?_
  rintro e w' ⟨o, rfl, rfl⟩
  go_wp2_with fail
  refine (signed_any V n _ h0 h1' h2 h3).mono ?_
  rintro e w' ⟨rfl, rfl⟩
  go_wp2_with fail
  refine (refSigned_any V n _ h0 h1' h2 h3).mono ?_
  rintro e w' ⟨rfl, rfl⟩
  go_wp2_with fail
  refine (text_any V _ hV (T1 o).out (by simp; omega)).mono ?_
  rintro e w' ⟨p, rfl, rfl⟩
  go_wp2_with fail
  refine (textRef_any V _ hV).mono ?_
  rintro e w' ⟨rfl, rfl⟩
  go_wp2_with fail
  refine (text_any V _ hV (T2 o p).out (by simp; omega)).mono ?_
  rintro e w' ⟨q, rfl, rfl⟩
  go_wp2_with fail
  go_ret
  exact ⟨rfl, (((Grown.refl _).alloc _ _).alloc _ _).alloc _ _⟩
theorem shl_shr (a : Int) (k : Nat) (h0 : 0 ≤ a) (h1 : a < 4294967296) (hk : k < 32) :
    bits .and .u32 a ((2 ^ (32 - k) - 1) % 4294967296) = a * 2 ^ k % 4294967296 / 2 ^ k := by
  obtain ⟨A, rfl⟩ := Int.eq_ofNat_of_zero_le h0
  obtain ⟨j, hj, hj1⟩ : ∃ j, 32 - k = j ∧ j + k = 32 := ⟨32 - k, rfl, by omega⟩
  rw [hj]
  have hp : (2 : Nat) ^ j * 2 ^ k = 4294967296 := by rw [← Nat.pow_add, hj1]
  have p1 : 1 ≤ 2 ^ j := Nat.one_le_two_pow
  have p2 : 2 ^ j ≤ 4294967296 := by rw [← hp]; exact Nat.le_mul_of_pos_right _ (Nat.two_pow_pos k)
  have e1 : ((2 : Int) ^ j - 1) % 4294967296 = ((2 ^ j - 1 : Nat) : Int) := by
    have : ((2 : Int) ^ j) = ((2 ^ j : Nat) : Int) := by simp
    rw [this]
    generalize 2 ^ j = x at p1 p2 ⊢
    omega
  rw [e1, u32_and _ _ (by omega) (by omega) (by omega) (by omega), Int.toNat_natCast, Int.toNat_natCast, Nat.and_two_pow_sub_one_eq_mod]
  have e2 : ((2 : Int) ^ k) = ((2 ^ k : Nat) : Int) := by simp
  rw [e2, show (4294967296 : Int) = ((2 ^ j * 2 ^ k : Nat) : Int) by rw [hp]; rfl, ← Int.natCast_mul, ← Int.natCast_emod, ← Int.natCast_ediv, Nat.mul_mod_mul_right, Nat.mul_div_cancel _ (Nat.two_pow_pos k)]
theorem wordShifts_walk (a n : Int) (ha : 0 ≤ a ∧ a ≤ 4294967295) (hb : 0 ≤ n ∧ n ≤ 255) (w : World) (hT : w.cell? ⟨2, 15, none⟩ = some (.int .u8 4)) :
    Calls Tryd.prog 6 #[.int .u32 a, .int .u8 n] w (TrueGrown w) := by
  have hw : 2 < w.heap.size := World.block_lt_of_cell? _ _ hT
  have ht := Lib.hid hT
  clear hT
  obtain ⟨h0, h1⟩ := ha
  obtain ⟨h2, h3⟩ := hb
  have h1' : a < 4294967296 := by omega
  obtain ⟨k, hk⟩ : ∃ k : Nat, n % 32 = (k : Int) := ⟨(n % 32).toNat, by omega⟩
  have hk32 : k < 32 := by omega
  have km : ((k : Int) % 32).toNat = k := by omega
  have km2 : (((k : Int) + 32) % 32).toNat = k := by omega
  obtain ⟨L, hL⟩ : ∃ L : Int, L = a * 2 ^ k % 4294967296 := ⟨_, rfl⟩
  have L0 : 0 ≤ L := by rw [hL]; omega
  have L1 : L < 4294967296 := by rw [hL]; omega
  obtain ⟨R, hR⟩ : ∃ R : Int, R = L / 2 ^ k := ⟨_, rfl⟩
  obtain ⟨S, hS⟩ : ∃ S : Int, S = wrap32 L / 2 ^ k % 4294967296 := ⟨_, rfl⟩
  have c1 := fun w => do_sll a k w h0 h1' (by omega) (by omega)
  have c2 := fun w => do_srl L k w L0 L1 (by omega) (by omega)
  have c3 := fun w => do_sra L k w L0 L1 (by omega) (by omega)
  have c4 := fun w => do_sll a (k + 32) w h0 h1' (by omega) (by omega)
  rw [km, ← hL] at c1
  rw [km, ← hR] at c2
  rw [km, ← hS] at c3
  rw [km2, ← hL] at c4
  have C1 := Lib.hid c1
  have C2 := Lib.hid c2
  have C3 := Lib.hid c3
  have C4 := Lib.hid c4
  have c5 := fun w => signed_any a (32 - (k : Int)) w h0 h1' (by omega) (by omega)
  have hv : sgnVal a (32 - (k : Int)) = S := by
    have e : (32 - (32 - (k : Int))).toNat = k := by omega
    rw [sgnVal, if_neg (by omega), if_neg (by omega), e, hS, hL]
  rw [hv] at c5
  have hM : bits .and .u32 a ((2 ^ (32 - k) - 1) % 4294967296) = R := by rw [hR, hL]; exact shl_shr a k h0 h1' hk32
  have C5 := Lib.hid c5
  clear c1 c2 c3 c4 c5 hL hR hS hv km km2
  go_enter Tryd.func6, Tryd.ntmps6
  go_wp2_with fail
  refine (known_any _ ht.out hw).mono ?_
  rintro e w' ⟨o, rfl, rfl⟩
  go_wp2_with fail
  refine (C1.out _).mono ?_
  rintro e w' ⟨rfl, rfl⟩
  go_wp2_with fail
  refine (C2.out _).mono ?_
  rintro e w' ⟨rfl, rfl⟩
  go_wp2_with fail
  refine (C3.out _).mono ?_
  rintro e w' ⟨rfl, rfl⟩
  go_wp2_with fail
  refine (C4.out _).mono ?_
  rintro e w' ⟨rfl, rfl⟩
  go_wp2_with fail
  refine (C5.out _).mono ?_
  rintro e w' ⟨rfl, rfl⟩
  go_wp2_with fail
  go_ret
  exact ⟨rfl, (Grown.refl _).alloc _ _⟩
theorem wordOrder_walk (a b : Int) (ha : 0 ≤ a ∧ a ≤ 4294967295) (hb : 0 ≤ b ∧ b ≤ 4294967295) (w : World) (hT : w.cell? ⟨2, 15, none⟩ = some (.int .u8 4)) :
    Calls Tryd.prog 7 #[.int .u32 a, .int .u32 b] w (TrueGrown w) := by
  have hw : 2 < w.heap.size := World.block_lt_of_cell? _ _ hT
  have ht := Lib.hid hT
  clear hT
  obtain ⟨h0, h1⟩ := ha
  obtain ⟨h2, h3⟩ := hb
  have h1' : a < 4294967296 := by omega
  have h3' : b < 4294967296 := by omega
  obtain ⟨x, hx⟩ : ∃ x : Int, x = if wrap32 a < wrap32 b then 1 else 0 := ⟨_, rfl⟩
  obtain ⟨y, hy⟩ : ∃ y : Int, y = if a < b then 1 else 0 := ⟨_, rfl⟩
  have c1 := fun w => do_slt a b w h0 h1' h2 h3'
  have c2 := fun w => do_sltu a b w h0 h1' h2 h3'
  rw [← hx] at c1
  rw [← hy] at c2
  have x1 : x ≤ 1 := by rw [hx]; split <;> omega
  have y1 : y ≤ 1 := by rw [hy]; split <;> omega
  have hxy : a / 2147483648 = b / 2147483648 → x = y := by
    intro h; rw [hx, hy]; unfold wrap32
    by_cases c : a < b
    · rw [if_pos c, if_pos (by omega)]
    · rw [if_neg c, if_neg (by omega)]
  have hne : ¬ a / 2147483648 = b / 2147483648 → x ≠ y := by
    intro h; rw [hx, hy]; unfold wrap32
    by_cases c : a < b
    · rw [if_pos c, if_neg (by omega)]; decide
    · rw [if_neg c, if_pos (by omega)]; decide
  have C1 := Lib.hid c1
  have C2 := Lib.hid c2
  clear c1 c2 hx hy
  have core : ∀ S X E : Bool, Hid ((a / 2147483648 == b / 2147483648) = S) → Hid ((x == y) = X) → Hid ((a == b) = E) → (X == (S || E)) = true →
      Calls Tryd.prog 7 #[.int .u32 a, .int .u32 b] w (TrueGrown w) := by
    intro S X E hS hX hE hf
    have fS := hS.out
    have fX := hX.out
    have fE := hE.out
    have fN : (a != b) = !E := by rw [bne, fE]
    clear hS hX hE hxy hne
    cases S <;> cases X <;> cases E <;> first | (exact absurd hf (by decide)) | skip
    all_goals
      clear hf
      go_enter Tryd.func7, Tryd.ntmps7
      go_wp2_with fail
      refine (known_any _ ht.out hw).mono ?_
      rintro e w' ⟨o, rfl, rfl⟩
      go_wp2_with fail
      refine (C1.out _).mono ?_
      rintro e w' ⟨rfl, rfl⟩
      go_wp2_with fail
      refine (C2.out _).mono ?_
      rintro e w' ⟨rfl, rfl⟩
      go_wp2_with fail
      refine (hw_beq a b _ h0 h1' h2 h3').mono ?_
      rintro e w' ⟨rfl, rfl⟩
      go_wp2_with fail
      refine (hw_bne a b _ h0 h1' h2 h3').mono ?_
      rintro e w' ⟨rfl, rfl⟩
      go_wp2_with fail
      go_ret
      exact ⟨rfl, (Grown.refl _).alloc _ _⟩
  refine core _ _ _ (Lib.hid rfl) (Lib.hid rfl) (Lib.hid rfl) ?_
  by_cases hs : a / 2147483648 = b / 2147483648
  · have := hxy hs
    simp [hs, this]
  · have h1 := hne hs
    have h2 : ¬ a = b := by rintro rfl; exact hs rfl
    rw [beq_eq_false_iff_ne.2 h1, beq_eq_false_iff_ne.2 hs, beq_eq_false_iff_ne.2 h2]
    rfl
theorem wordLaws_walk (a b c : Int) (ha : 0 ≤ a ∧ a ≤ 4294967295) (hb : 0 ≤ b ∧ b ≤ 4294967295) (hc : 0 ≤ c ∧ c ≤ 4294967295) (w : World) (hT : w.cell? ⟨2, 15, none⟩ = some (.int .u8 4)) :
    Calls Tryd.prog 5 #[.int .u32 a, .int .u32 b, .int .u32 c] w (TrueGrown w) := by
  have hw : 2 < w.heap.size := World.block_lt_of_cell? _ _ hT
  have ht := Lib.hid hT
  clear hT
  obtain ⟨h0, h1⟩ := ha
  obtain ⟨h2, h3⟩ := hb
  obtain ⟨h4, h5⟩ := hc
  have h1' : a < 4294967296 := by omega
  have h3' : b < 4294967296 := by omega
  have h5' : c < 4294967296 := by omega
  obtain ⟨s, hs⟩ : ∃ s : Int, s = (a + b) % 4294967296 := ⟨_, rfl⟩
  have s0 : 0 ≤ s := by omega
  have s1 : s < 4294967296 := by omega
  have hd : (s - b) % 4294967296 = a := by omega
  obtain ⟨x, hx⟩ : ∃ x : Int, x = c * s % 4294967296 := ⟨_, rfl⟩
  obtain ⟨y, hy⟩ : ∃ y : Int, y = c * a % 4294967296 := ⟨_, rfl⟩
  obtain ⟨z, hz⟩ : ∃ z : Int, z = c * b % 4294967296 := ⟨_, rfl⟩
  obtain ⟨q, hq⟩ : ∃ q : Int, q = quoU a b := ⟨_, rfl⟩
  obtain ⟨r, hr⟩ : ∃ r : Int, r = remU a b := ⟨_, rfl⟩
  have hxyz : (y + z) % 4294967296 = x := by
    rw [hx, hy, hz, hs, Int.mul_emod c ((a + b) % 4294967296), Int.emod_emod, ← Int.mul_emod, Int.mul_add, ← Int.add_emod]
  have hqr : b ≠ 0 → (q * b + r) % 4294967296 = a := by
    intro h
    have e : q * b + r = a := by rw [hq, hr, quoU, remU, if_neg h, if_neg h]; exact Int.ediv_mul_add_emod a b
    rw [e]; omega
  have hrb : b ≠ 0 → r < b := by
    intro h; rw [hr, remU, if_neg h]; exact Int.emod_lt_of_pos _ (by omega)
  obtain ⟨T, hlt⟩ : ∃ T : Bool, T = decide (wrap32 a < wrap32 b) := ⟨_, rfl⟩
  have hge : decide (wrap32 b ≤ wrap32 a) = !T := by rw [hlt, ← decide_not]; exact decide_eq_decide.2 (by omega)
  have c1 := fun w => do_add a b w h0 h1' h2 h3'
  have c2 := fun w => do_sub s b w s0 s1 h2 h3'
  have c3 := fun w => do_mul c s w h4 h5' s0 s1
  have c4 := fun w => do_mul c a w h4 h5' h0 h1'
  have c5 := fun w => do_mul c b w h4 h5' h2 h3'
  have c6 := fun w => do_divu a b w h0 h1' h2 h3'
  have c7 := fun w => do_remu a b w h0 h1' h2 h3'
  have c8 := fun w => hw_blt a b w h0 h1' h2 h3'
  have c9 := fun w => hw_bge a b w h0 h1' h2 h3'
  rw [← hs] at c1
  rw [hd] at c2
  rw [← hx] at c3
  rw [← hy] at c4
  rw [← hz] at c5
  rw [← hq] at c6
  rw [← hr] at c7
  rw [← hlt] at c8
  rw [hge] at c9
  have C1 := Lib.hid c1
  have C2 := Lib.hid c2
  have C3 := Lib.hid c3
  have C4 := Lib.hid c4
  have C5 := Lib.hid c5
  have C6 := Lib.hid c6
  have C7 := Lib.hid c7
  have C8 := Lib.hid c8
  have C9 := Lib.hid c9
  clear c1 c2 c3 c4 c5 c6 c7 c8 c9 hs hd hx hy hz hq hr hlt hge
  have core : ∀ Z : Bool, Hid ((b == 0) = Z) → (Z = false → Hid ((q * b + r) % 4294967296 = a) ∧ r < b) → Calls Tryd.prog 5 #[.int .u32 a, .int .u32 b, .int .u32 c] w (TrueGrown w) := by
    intro Z hZ hf
    have fZ := hZ.out
    clear hZ hqr hrb
    cases Z <;> cases T
    all_goals
      first | (obtain ⟨f1, f2⟩ := hf rfl; have f3 := f1.out; clear f1) | skip
      clear hf
      go_enter Tryd.func5, Tryd.ntmps5
      go_wp2_with fail
      refine (known_any _ ht.out hw).mono ?_
      rintro e w' ⟨o, rfl, rfl⟩
      go_wp2_with fail
      refine (C1.out _).mono ?_
      rintro e w' ⟨rfl, rfl⟩
      go_wp2_with fail
      refine (C2.out _).mono ?_
      rintro e w' ⟨rfl, rfl⟩
      go_wp2_with fail
      refine (C3.out _).mono ?_
      rintro e w' ⟨rfl, rfl⟩
      go_wp2_with fail
      refine (C4.out _).mono ?_
      rintro e w' ⟨rfl, rfl⟩
      go_wp2_with fail
      refine (C5.out _).mono ?_
      rintro e w' ⟨rfl, rfl⟩
      go_wp2_with fail
      refine (C6.out _).mono ?_
      rintro e w' ⟨rfl, rfl⟩
      go_wp2_with fail
      refine (C7.out _).mono ?_
      rintro e w' ⟨rfl, rfl⟩
      go_wp2_with fail
      refine (C8.out _).mono ?_
      rintro e w' ⟨rfl, rfl⟩
      go_wp2_with fail
      refine (C9.out _).mono ?_
      rintro e w' ⟨rfl, rfl⟩
      go_wp2_with fail
      go_ret
      exact ⟨rfl, (Grown.refl _).alloc _ _⟩
  by_cases hz : b = 0
  · exact core true (Lib.hid (by rw [hz]; rfl)) (fun h => by cases h)
  · exact core false (Lib.hid (beq_eq_false_iff_ne.2 hz)) (fun _ => ⟨Lib.hid (hqr hz), hrb hz⟩)
end Go.Proofs.YtcmmdeenkfeofaaDoor
