/- AccPut, AccDef: Package access: joined, split: numbers in bytes and back. -/
import Derived.Test.YtgfoohiaioojoaaDoorGRef
import Derived.Test.YtgfoohiaioojoaaDoorGDevC
import Derived.Test.YtgfoohiaioojoaaDoorGAccA
import Derived.Test.YtgfoohiaioojoaaDoorGPlay
import Derived.Test.YtgfoohiaioojoaaDoorGBase
/- Package access: joined, split: numbers in bytes and back. -/
namespace Go.Proofs.YtgfoohiaioojoaaDoor
set_option linter.unusedVariables false
set_option linter.unusedSimpArgs false
open Go.RowKit
theorem joined_at (b off cap : Nat) (zs : List Int) (hz : ∀ z ∈ zs, IsByte z) (hn : zs.length ≤ 4) (hb : zs.length ≤ cap) (hcap : cap ≤ 9223372036854775807) (w : World)
    (hc : ∀ j, j < zs.length → w.cell? ⟨b, off + j, none⟩ = some (.int .u8 (zs.getD j 0))) :
    Calls Tryd.prog 46 #[.slice (some ⟨b, off, none⟩) zs.length cap] w fun e w' => e = .returned (.int .u32 (leW zs)) ∧ w = w' := by
  obtain ⟨n, hnn⟩ : ∃ n, n = zs.length := ⟨_, rfl⟩
  rw [← hnn] at hc hn hb ⊢
  have HN := Lib.hid hnn
  clear hnn
  have HZ := Lib.hid hz
  have HC := Lib.hid hc
  clear hz hc
  go_enter Tryd.func46, Tryd.ntmps46
  go_wp2_with fail
  go_loop [3, 8] (fun v i => ∃ k : Nat, k ≤ n ∧ v = .int .u32 (leW (zs.take k)) ∧ i = .int .i64 (k : Int)) (fun _ i => n - (intOf i).toNat)
  case atStart => exact ⟨0, Nat.zero_le _, rfl, rfl⟩
  case round =>
    obtain ⟨k, hk, rfl, rfl⟩ := hrel
    by_cases h : k < n
    · have hcell := HC.out k (by omega)
      have hkx : k < zs.length := by rw [← HN.out]; exact h
      obtain ⟨z, hz⟩ : ∃ z, z = zs.getD k 0 := ⟨_, rfl⟩
      have hmem : z = zs[k] := by rw [hz, List.getD_eq_getElem?_getD, List.getElem?_eq_getElem hkx]; rfl
      have hbz : IsByte z := by rw [hmem]; exact HZ.out _ (List.getElem_mem hkx)
      have hs := leW_snoc z hbz (zs.take k) (fun y hy => HZ.out y (List.mem_of_mem_take hy)) (by simp; omega)
      have hl : (zs.take k).length = k := by simp; omega
      rw [hl, hmem, ← List.take_succ_eq_append_getElem hkx, ← hmem] at hs
      obtain ⟨x, hx⟩ : ∃ x, x = leW (zs.take k) := ⟨_, rfl⟩
      rw [← hx] at hs ⊢
      rw [← hz] at hcell
      obtain ⟨hs1, hs2⟩ := hs
      have HS := Lib.hid hs1
      have HB := Lib.hid hbz
      unfold IsByte at hbz
      clear hx hmem hl hkx hz hs1
      rcases (by omega : k = 0 ∨ k = 1 ∨ k = 2 ∨ k = 3) with rfl | rfl | rfl | rfl
      · have ho := or_at x z 1 0 rfl (by decide) (by simpa using hs2) HB.out
        simp only [Nat.add_zero, Int.reducePow, Int.pow_zero, Int.mul_one] at hcell hs2 ho
        go_wp2_with fail
        refine ⟨⟨1, h, ?_, rfl⟩, by simp [intOf]; omega⟩
        have e := HS.out
        simp only [Int.reducePow, Int.pow_zero, Int.mul_one, Nat.reduceAdd] at e
        first | rw [e] | (rw [ho, e])
      · have ho := or_at x z 256 8 rfl (by decide) (by simpa using hs2) HB.out
        simp only [Nat.add_zero, Int.reducePow, Int.pow_zero, Int.mul_one] at hcell hs2 ho
        go_wp2_with fail
        refine ⟨⟨2, h, ?_, rfl⟩, by simp [intOf]; omega⟩
        have e := HS.out
        simp only [Int.reducePow, Int.pow_zero, Int.mul_one, Nat.reduceAdd] at e
        first | rw [e] | (rw [ho, e])
      · have ho := or_at x z 65536 16 rfl (by decide) (by simpa using hs2) HB.out
        simp only [Nat.add_zero, Int.reducePow, Int.pow_zero, Int.mul_one] at hcell hs2 ho
        go_wp2_with fail
        refine ⟨⟨3, h, ?_, rfl⟩, by simp [intOf]; omega⟩
        have e := HS.out
        simp only [Int.reducePow, Int.pow_zero, Int.mul_one, Nat.reduceAdd] at e
        first | rw [e] | (rw [ho, e])
      · have ho := or_at x z 16777216 24 rfl (by decide) (by simpa using hs2) HB.out
        simp only [Nat.add_zero, Int.reducePow, Int.pow_zero, Int.mul_one] at hcell hs2 ho
        go_wp2_with fail
        refine ⟨⟨4, h, ?_, rfl⟩, by simp [intOf]; omega⟩
        have e := HS.out
        simp only [Int.reducePow, Int.pow_zero, Int.mul_one, Nat.reduceAdd] at e
        first | rw [e] | (rw [ho, e])
    · obtain rfl : k = n := by omega
      go_wp2_with fail
      go_ret
      exact ⟨by show Ending.returned (.int .u32 (leW (zs.take k))) = _; rw [HN.out, List.take_length], rfl⟩

theorem joined_any (v : Value) (xs : List Int) (S : Nat → Prop) (hx : ∀ z ∈ xs, IsByte z) (hl : xs.length = 1 ∨ xs.length = 2 ∨ xs.length = 4) (w : World) (h : Lies w v xs S) :
    Calls Tryd.prog 46 #[v] w fun e w' => e = .returned (.int .u32 (leW xs)) ∧ w = w' := by
  obtain ⟨ad, cs, rfl, h1, h2, h3⟩ := h
  obtain ⟨b, off, rfl, -, -, -⟩ := h3 0 (by omega)
  refine joined_at b off cs xs hx (by omega) h1 h2 w (fun j hj => ?_)
  obtain ⟨b', off', e, -, -, hc⟩ := h3 j hj
  simp only [Option.some.injEq, Addr.mk.injEq, and_true] at e
  obtain ⟨rfl, rfl⟩ := e
  exact hc
theorem fill_b4 (v : Int) (N : Nat) (hN : N = 1 ∨ N = 2 ∨ N = 4) : fillV (madeCells #[.int .u8 0] N) 0 v N = u8s ((b4 v).take N) := by
  rw [made_u8]
  rcases hN with rfl | rfl | rfl <;> simp [fillV, u8s, b4, List.replicate]
set_option maxHeartbeats 1000000 in
theorem split_any (v : Int) (hv : 0 ≤ v ∧ v ≤ 4294967295) (N : Nat) (hN : N = 1 ∨ N = 2 ∨ N = 4) (w : World) :
    Calls Tryd.prog 57 #[.int .u32 v, .int .i64 (N : Int)] w fun e w' => e = .returned (.slice (some ⟨w.heap.size, 0, none⟩) N N) ∧ Box w' w.heap.size (u8s ((b4 v).take N)) ∧ Keep w w' := by
  have HV := Lib.hid hv
  have HN := Lib.hid hN
  have hn4 : N ≤ 4 := by omega
  have hmk := run_make_row' (P := Tryd.prog) 37 5 (.int .u8 0) 1 Tryd.underlying37 infoU8 rfl .i64 .i64 N (by omega) (by omega)
  rw [← fill_b4 v N hN]
  clear hN
  obtain ⟨v0, v1⟩ := hv
  go_enter Tryd.func57, Tryd.ntmps57
  go_wp2_with fail
  go_loopw [11] (fun i wr => ∃ k : Nat, k ≤ N ∧ i = .int .i64 (k : Int) ∧ Box wr w.heap.size (fillV (madeCells #[.int .u8 0] N) 0 v k) ∧ Keep w wr) (fun i _ => N - (intOf i).toNat)
  case atStart => exact ⟨0, Nat.zero_le _, rfl, Box.new _ _ _, (Keep.refl _).alloc _⟩
  case round =>
    obtain ⟨k, hk, rfl, hR, hK⟩ := hrel
    have k0 : (0 : Int) ≤ (k : Int) := Int.natCast_nonneg _
    by_cases h : k < N
    · have hkN : (k : Int) < (N : Int) := by omega
      have hs : 0 + k < (fillV (madeCells #[.int .u8 0] N) 0 v k).size := by rw [fillV_size, made_u8]; simp [u8s]; omega
      have hc : wr.cell? ⟨w.heap.size, 0 + k, none⟩ = some ((fillV (madeCells #[.int .u8 0] N) 0 v k)[0 + k]) := by
        rw [hR.cells, Array.getElem?_eq_getElem hs]
      have hf := hR.thawed
      have HR := Lib.hid hR
      have HK := Lib.hid hK
      clear hR hK
      have hset := fun z => (HR.out.set (0 + k) (.int .u8 z))
      have HS := Lib.hid hset
      clear hset
      rcases (by omega : k = 0 ∨ k = 1 ∨ k = 2 ∨ k = 3) with rfl | rfl | rfl | rfl
      all_goals (
        simp only [Nat.zero_add] at hc
        go_wp2_with fail
        refine ⟨⟨_, h, rfl, ?_, HK.out.setCell (Nat.le_refl _) _⟩, by simp [intOf]; omega⟩
        have e := HS.out
        simp only [Nat.zero_add] at e
        simp only [fillV, Nat.zero_add, Nat.add_zero, Int.pow_zero, Int.ediv_one, Int.reducePow]
        simp only [fillV, Nat.zero_add, Nat.add_zero, Int.pow_zero, Int.ediv_one, Int.reducePow] at e
        first | exact e _ | (rw [show v / 16777216 % 256 = v / 16777216 by omega]; exact e _))
    · obtain rfl : k = N := by omega
      go_wp2_with fail
      go_ret
      exact ⟨rfl, hR, hK⟩
end Go.Proofs.YtgfoohiaioojoaaDoor

/- What access answers and leaves: plain. -/
namespace Go.Proofs.YtgfoohiaioojoaaDoor
set_option linter.unusedVariables false
set_option linter.unusedSimpArgs false
open Go.RowKit
variable (L : Nat) (bs : List Int) (ts : List Bool) (t : Bool) (b p a m y off n q : Int)
instance : Decidable (numOk t b p a m y off n q) := by unfold numOk; infer_instance
/-- A number of n bytes: what is wrong, what is read. -/
def readE : Value := if numOk t b p a m y off n 1 then loadV L (plc a off) n else numE t b p a m y off n 1
def readAt : Int := leW ((bs.drop (plc a off).toNat).take n.toNat)
def readN (sign : Bool) : Int := if numOk t b p a m y off n 1 ∧ reachB (plc a off) n bs.length = true then (if sign = true then sgnVal (readAt bs a off n) (8 * n) else readAt bs a off n) else 0
def writeE : Value := if numOk t b p a m y off n 2 then storeV L (plc a off) n else numE t b p a m y off n 2
def writeB (v : Int) : List Int := if numOk t b p a m y off n 2 then storeB bs (plc a off) ((b4 v).take n.toNat) else bs
def writeT : List Bool := if numOk t b p a m y off n 2 then storeT L ts (plc a off) n.toNat else ts
/-- A capability: what is wrong, what is read. -/
def capOk (q : Int) : Prop := lackN t b p m y (plc a off) 16 q = 0
instance (q : Int) : Decidable (capOk t b p a m y off q) := by unfold capOk; infer_instance
def capE (q : Int) : Value := if capOk t b p a m y off q then granV L (plc a off) else wrongV accessT (plc a off) (lackN t b p m y (plc a off) 16 q)
def hasLC : Bool := !(bits .and .u16 m 8 == 0)
def rcapV : Value := if capOk t b p a m y off 1 ∧ capAt bs.length (plc a off) then capV (ts.getD ((plc a off).toNat / 16) false && hasLC m) (sixteen bs (plc a off).toNat) else zeroV
def needs (tv : Bool) : Int := if tv = true then 18 else 2
def wcapB (tv : Bool) (b' p' a' m' y' : Int) : List Int := if capOk t b p a m y off (needs tv) then scapB bs (plc a off) b' p' a' m' y' else bs
def wcapT (tv : Bool) : List Bool := if capOk t b p a m y off (needs tv) then scapT L ts (plc a off) tv else ts
theorem take_b4 (v : Int) (n : Int) (hn : n = 1 ∨ n = 2 ∨ n = 4) : ((b4 v).take n.toNat).length = n.toNat := by
  rcases hn with rfl | rfl | rfl <;> rfl
theorem writeB_length (v : Int) : (writeB bs t b p a m y off n v).length = bs.length := by
  unfold writeB
  split
  · rw [storeB_length]
  · rfl
theorem wcapB_length (tv : Bool) (b' p' a' m' y' : Int) : (wcapB bs t b p a m y off tv b' p' a' m' y').length = bs.length := by
  unfold wcapB
  split
  · rw [scapB_length]
  · rfl
theorem numOk_size {t : Bool} {b p a m y off n q : Int} (h : numOk t b p a m y off n q) : n = 1 ∨ n = 2 ∨ n = 4 := by
  have := sizeN_in n
  have := h.1
  omega
end Go.Proofs.YtgfoohiaioojoaaDoor
