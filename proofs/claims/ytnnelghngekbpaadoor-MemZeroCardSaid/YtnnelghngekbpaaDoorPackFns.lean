/- Package pack's functions: put, get by their loops. -/
import Derived.Test.YtnnelghngekbpaaDoorRefGet
namespace Go.Proofs.YtnnelghngekbpaaDoor
set_option linter.unusedVariables false
set_option linter.unusedSimpArgs false
open Go.RowKit
/-- n bytes of v, the lowest first, from cell off on. -/
def fillV (vs : Array Value) (off : Nat) (v : Int) : Nat → Array Value
  | 0 => vs
  | k + 1 => (fillV vs off v k).setIfInBounds (off + k) (.int .u8 (v / 256 ^ k % 256))
theorem fillV_size (vs : Array Value) (off : Nat) (v : Int) (k : Nat) : (fillV vs off v k).size = vs.size := by
  induction k with
  | zero => rfl
  | succ k ih => simp [fillV, ih]
theorem div_step (v : Int) (k : Nat) : v / 256 ^ k / 256 = v / 256 ^ (k + 1) := by
  rw [Int.pow_succ, Int.ediv_ediv_of_nonneg (Int.le_of_lt (Int.pow_pos (by decide)))]
theorem div_in (v : Int) (hv : 0 ≤ v ∧ v ≤ 4294967295) (k : Nat) : 0 ≤ v / 256 ^ k ∧ v / 256 ^ k ≤ 4294967295 := by
  have hp : (0 : Int) < 256 ^ k := Int.pow_pos (by decide)
  refine ⟨Int.ediv_nonneg hv.1 (Int.le_of_lt hp), ?_⟩
  have := Int.ediv_le_self (256 ^ k) hv.1
  omega
/-- What was there ahead of block b stays. -/
theorem pput_any (b off cap n : Nat) (v : Int) (hv : 0 ≤ v ∧ v ≤ 4294967295) (vs : Array Value) (w : World) (hB : Box w b vs) (hn : off + n ≤ vs.size) (hn2 : n ≤ 4) :
    Calls Tryd.prog 51 #[.slice (some ⟨b, off, none⟩) n cap, .int .u32 v] w fun e w' => e = .returned (.tuple #[]) ∧ Box w' b (fillV vs off v n) ∧ ∀ W0 : World, Keep W0 w → W0.heap.size ≤ b → Keep W0 w' := by
  have HB := Lib.hid hB
  have HV := Lib.hid hv
  clear hB hv
  go_enter Tryd.func51, Tryd.ntmps51
  go_wp2_with fail
  go_loopw [1, 7] (fun x i wr => ∃ k : Nat, k ≤ n ∧ i = .int .i64 (k : Int) ∧ x = .int .u32 (v / 256 ^ k) ∧ Box wr b (fillV vs off v k) ∧ ∀ W0 : World, Keep W0 w → W0.heap.size ≤ b → Keep W0 wr) (fun _ i _ => n - (intOf i).toNat)
  case atStart => exact ⟨0, Nat.zero_le _, rfl, by simp, HB.out, fun W0 h _ => h⟩
  case round =>
    obtain ⟨k, hk, rfl, rfl, hR, hK⟩ := hrel
    have k0 : (0 : Int) ≤ (k : Int) := Int.natCast_nonneg _
    obtain ⟨X, hX⟩ : ∃ X, X = v / 256 ^ k := ⟨_, rfl⟩
    have hXb := div_in v HV.out k
    have hXs := div_step v k
    rw [← hX] at hXb hXs ⊢
    have HX := Lib.hid hX
    have HXs := Lib.hid hXs
    obtain ⟨x0, x1⟩ := hXb
    clear hX hXs
    by_cases h : k < n
    · have hkN : (k : Int) < (n : Int) := by omega
      have hs : off + k < (fillV vs off v k).size := by rw [fillV_size]; omega
      have hc : wr.cell? ⟨b, off + k, none⟩ = some ((fillV vs off v k)[off + k]) := by
        rw [hR.cells, Array.getElem?_eq_getElem hs]
      have hf := hR.thawed
      have HR := Lib.hid hR
      have HK := Lib.hid hK
      clear hR hK
      go_wp2_with fail
      refine ⟨⟨k + 1, h, rfl, ?_, by rw [fillV, ← HX.out]; exact HR.out.set _ _, fun W0 h1 h2 => (HK.out W0 h1 h2).setCell h2 _⟩, ?_⟩
      · rw [HXs.out]
      · simp [intOf]; omega
    · obtain rfl : k = n := by omega
      go_wp2_with fail
      go_end0
      exact ⟨rfl, hR, hK⟩
/-- A number beneath so many noughts. -/
theorem or_nat (X Z p : Nat) (h : X < 2 ^ p) : X ||| Z * 2 ^ p = X + Z * 2 ^ p := by
  have h2 := Nat.two_pow_add_eq_or_of_lt h Z
  rw [Nat.mul_comm Z, Nat.or_comm, ← h2, Nat.add_comm]
theorem or_at (x z q : Int) (p : Nat) (hq : q = 2 ^ p) (h1 : 256 * q ≤ 4294967296) (hx : 0 ≤ x ∧ x < q) (hz : IsByte z) : bits .or .u32 x (z * q) = x + z * q := by
  unfold IsByte at hz
  obtain ⟨Z, rfl⟩ := Int.eq_ofNat_of_zero_le hz.1
  obtain ⟨X, rfl⟩ := Int.eq_ofNat_of_zero_le hx.1
  obtain ⟨Q, hQ⟩ : ∃ Q : Nat, Q = 2 ^ p := ⟨_, rfl⟩
  have e : q = (Q : Int) := by rw [hq, hQ]; simp
  subst e
  have hz1 : Z ≤ 255 := by omega
  have hm : Z * Q ≤ 255 * Q := Nat.mul_le_mul_right _ hz1
  have hX : X < 2 ^ p := by rw [← hQ]; omega
  have h3 := or_nat X Z p hX
  rw [← hQ] at h3
  rw [← Int.natCast_mul, u32_or _ _ (by omega) (by omega) (by omega) (by omega)]
  simp only [Int.toNat_natCast, h3]
  simp
theorem leW_snoc (z : Int) (hz : IsByte z) : ∀ (l : List Int), (∀ y ∈ l, IsByte y) → l.length < 4 → leW (l ++ [z]) = leW l + z * 256 ^ l.length ∧ 0 ≤ leW l ∧ leW l < 256 ^ l.length := by
  unfold IsByte at hz
  intro l hl hn
  match l, hl, hn with
  | [], _, _ => simp [leW]
  | [a], hl, _ =>
    have ha := hl a (by simp)
    unfold IsByte at ha
    simp only [List.cons_append, List.nil_append, leW, List.length_cons, List.length_nil, Int.reducePow, Nat.reduceAdd]
    omega
  | [a, b], hl, _ =>
    have ha := hl a (by simp)
    have hb := hl b (by simp)
    unfold IsByte at ha hb
    simp only [List.cons_append, List.nil_append, leW, List.length_cons, List.length_nil, Int.reducePow, Nat.reduceAdd]
    omega
  | [a, b, c], hl, _ =>
    have ha := hl a (by simp)
    have hb := hl b (by simp)
    have hc := hl c (by simp)
    unfold IsByte at ha hb hc
    simp only [List.cons_append, List.nil_append, leW, List.length_cons, List.length_nil, Int.reducePow, Nat.reduceAdd]
    omega
theorem pget_any (b off cap : Nat) (zs : List Int) (hz : ∀ z ∈ zs, IsByte z) (hn : zs.length ≤ 4) (hb : zs.length ≤ cap) (hcap : cap ≤ 9223372036854775807) (w : World)
    (hc : ∀ j, j < zs.length → w.cell? ⟨b, off + j, none⟩ = some (.int .u8 (zs.getD j 0))) :
    Calls Tryd.prog 53 #[.slice (some ⟨b, off, none⟩) zs.length cap] w fun e w' => e = .returned (.int .u32 (leW zs)) ∧ w = w' := by
  obtain ⟨n, hnn⟩ : ∃ n, n = zs.length := ⟨_, rfl⟩
  rw [← hnn] at hc hn hb ⊢
  have HN := Lib.hid hnn
  clear hnn
  have HZ := Lib.hid hz
  have HC := Lib.hid hc
  clear hz hc
  go_enter Tryd.func53, Tryd.ntmps53
  go_wp2_with fail
  go_loop [3, 8] (fun v i => ∃ k : Nat, k ≤ n ∧ v = .int .u32 (leW (zs.take k)) ∧ i = .int .i64 (k : Int)) (fun _ i => n - (intOf i).toNat)
  case atStart => exact ⟨0, Nat.zero_le _, rfl, rfl⟩
  case round =>
    obtain ⟨k, hk, rfl, rfl⟩ := hrel
    by_cases h : k < n
    · have hcell := HC.out k (by omega)
      have hkx : k < zs.length := by rw [← HN.out]; exact h
      obtain ⟨z, hz⟩ : ∃ z, z = zs.getD k 0 := ⟨_, rfl⟩
      have hmem : z = zs[k] := by rw [hz, List.getD_eq_getElem?_getD, List.getElem?_eq_getElem hkx]; rfl
      have hbz : IsByte z := by rw [hmem]; exact HZ.out _ (List.getElem_mem hkx)
      have hs := leW_snoc z hbz (zs.take k) (fun y hy => HZ.out y (List.mem_of_mem_take hy)) (by simp; omega)
      have hl : (zs.take k).length = k := by simp; omega
      rw [hl, hmem, ← List.take_succ_eq_append_getElem hkx, ← hmem] at hs
      obtain ⟨x, hx⟩ : ∃ x, x = leW (zs.take k) := ⟨_, rfl⟩
      rw [← hx] at hs ⊢
      rw [← hz] at hcell
      obtain ⟨hs1, hs2⟩ := hs
      have HS := Lib.hid hs1
      have HB := Lib.hid hbz
      unfold IsByte at hbz
      clear hx hmem hl hkx hz hs1
      rcases (by omega : k = 0 ∨ k = 1 ∨ k = 2 ∨ k = 3) with rfl | rfl | rfl | rfl
      · have ho := or_at x z 1 0 rfl (by decide) (by simpa using hs2) HB.out
        simp only [Nat.add_zero, Int.reducePow, Int.pow_zero, Int.mul_one] at hcell hs2 ho
        go_wp2_with fail
        refine ⟨⟨1, h, ?_, rfl⟩, by simp [intOf]; omega⟩
        have e := HS.out
        simp only [Int.reducePow, Int.pow_zero, Int.mul_one, Nat.reduceAdd] at e
        first | rw [e] | (rw [ho, e])
      · have ho := or_at x z 256 8 rfl (by decide) (by simpa using hs2) HB.out
        simp only [Nat.add_zero, Int.reducePow, Int.pow_zero, Int.mul_one] at hcell hs2 ho
        go_wp2_with fail
        refine ⟨⟨2, h, ?_, rfl⟩, by simp [intOf]; omega⟩
        have e := HS.out
        simp only [Int.reducePow, Int.pow_zero, Int.mul_one, Nat.reduceAdd] at e
        first | rw [e] | (rw [ho, e])
      · have ho := or_at x z 65536 16 rfl (by decide) (by simpa using hs2) HB.out
        simp only [Nat.add_zero, Int.reducePow, Int.pow_zero, Int.mul_one] at hcell hs2 ho
        go_wp2_with fail
        refine ⟨⟨3, h, ?_, rfl⟩, by simp [intOf]; omega⟩
        have e := HS.out
        simp only [Int.reducePow, Int.pow_zero, Int.mul_one, Nat.reduceAdd] at e
        first | rw [e] | (rw [ho, e])
      · have ho := or_at x z 16777216 24 rfl (by decide) (by simpa using hs2) HB.out
        simp only [Nat.add_zero, Int.reducePow, Int.pow_zero, Int.mul_one] at hcell hs2 ho
        go_wp2_with fail
        refine ⟨⟨4, h, ?_, rfl⟩, by simp [intOf]; omega⟩
        have e := HS.out
        simp only [Int.reducePow, Int.pow_zero, Int.mul_one, Nat.reduceAdd] at e
        first | rw [e] | (rw [ho, e])
    · obtain rfl : k = n := by omega
      go_wp2_with fail
      go_ret
      exact ⟨by show Ending.returned (.int .u32 (leW (zs.take k))) = _; rw [HN.out, List.take_length], rfl⟩
end Go.Proofs.YtnnelghngekbpaaDoor
