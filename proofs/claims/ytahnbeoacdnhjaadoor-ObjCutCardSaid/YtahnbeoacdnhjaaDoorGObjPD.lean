/- ObjPRdr, ObjPTake, ObjPNum, ObjPWith, ObjPText, ObjPSyR, ObjPReR, ObjPRea, ObjPRead, ObjPDec: The program's reader of objects: where it lies, what it holds; refuse, take. -/
import Derived.Test.YtahnbeoacdnhjaaDoorGObjPA
import Derived.Test.YtahnbeoacdnhjaaDoorObjRun
import Derived.Test.YtahnbeoacdnhjaaDoorGBase
import Derived.Test.YtahnbeoacdnhjaaDoorObjGen
import Derived.IntWalk
import Derived.Test.YtahnbeoacdnhjaaDoorGObjPC
import Derived.Laws.BytesArg
import Derived.Test.YtahnbeoacdnhjaaDoorGObjPB
/- The program's reader of objects: where it lies, what it holds; refuse, take. -/
namespace Go.Proofs.YtahnbeoacdnhjaaDoor
set_option linter.unusedVariables false
set_option linter.unusedSimpArgs false
open Go Go.RowKit
/-- The bytes that are read: they lie ahead of the reader. -/
structure RCtx (w0 : World) (r : Nat) (vb : Value) (l : List Nat) : Prop where
  lies : SlAt w0 vb l.length (l.map byteV)
  new : w0.heap.size ≤ r
  bytes : ∀ x ∈ l, x < 256
  few : l.length ≤ 100000
/-- The reader at a place, or with the first error. -/
def RdSt (w : World) (r : Nat) (vb : Value) (l : List Nat) (S : RSt) : Prop := match S with
  | .ok p => p ≤ l.length ∧ Box w r #[vb, .int .i64 (p : Int), .nilIface]
  | .error (a, c) => ∃ q p : Nat, p ≤ l.length ∧ q ≠ r ∧ c ≠ 0 ∧ Box w r #[vb, .int .i64 (p : Int), faultP q] ∧ Box w q #[.string byteT, .int .i64 a, .iface 74 (.int .i64 c)]
theorem RdSt.keep {w w' : World} {r : Nat} {vb : Value} {l : List Nat} {S : RSt} (h : RdSt w r vb l S) (k : Keep w w') : RdSt w' r vb l S := by
  cases S with
  | ok p => exact ⟨h.1, h.2.keep k⟩
  | error e =>
    obtain ⟨q, p, h1, h2, h3, h4, h5⟩ := h
    exact ⟨q, p, h1, h2, h3, h4.keep k, h5.keep k⟩
theorem RdSt.lt {w : World} {r : Nat} {vb : Value} {l : List Nat} {S : RSt} (h : RdSt w r vb l S) : r < w.heap.size := by
  cases S with
  | ok p => exact h.2.lt
  | error e =>
    obtain ⟨q, p, h1, h2, h3, h4, h5⟩ := h
    exact h4.lt
/-- What a reading leaves. -/
def RdPost {α : Type} (r : Nat) (vb : Value) (l : List Nat) (X : Rd α) (V : World → α → Value → Prop) (w : World) (e : Ending) (w' : World) : Prop :=
  ∃ (v : Value) (a : α) (S : RSt), e = .returned v ∧ V w' a v ∧ RdSt w' r vb l S ∧ Got X a S ∧ KeepBut (fun z => z = r) w w'
theorem RSt.run_bad {α : Type} (e : Int × Int) (f : Nat → Rd α) : RSt.run (.error e) f = .error e := rfl
theorem RSt.run_ok {α : Type} (p : Nat) (f : Nat → Rd α) : RSt.run (.ok p) f = f p := rfl
def RSt.refuse (S : RSt) (a c : Int) : RSt := match S with
  | .ok _ => .error (a, c)
  | .error e => .error e
set_option maxHeartbeats 4000000 in
set_option maxRecDepth 100000 in
theorem prefuse_any (r : Nat) (vb : Value) (l : List Nat) (S : RSt) (a c : Int) (hc : c ≠ 0) (w : World) (h : RdSt w r vb l S) :
    Calls Tryd.prog 62 #[.pointer (some ⟨r, 0, none⟩), .int .i64 a, .int .i64 c] w fun e w' => e = .returned (.tuple #[]) ∧ RdSt w' r vb l (S.refuse a c) ∧ KeepBut (fun z => z = r) w w' := by
  cases S with
  | error e =>
    obtain ⟨a1, c1⟩ := e
    obtain ⟨q, p, h1, h2, h3, h4, h5⟩ := h
    have c0 := h4.cells
    unfold faultP at c0
    have H : Hid (RdSt w r vb l (.error (a1, c1))) := Lib.hid ⟨q, p, h1, h2, h3, h4, h5⟩
    clear h1 h2 h3 h4 h5
    go_enter Tryd.func62, Tryd.ntmps62
    go_wp2_with fail
    go_end0
    exact ⟨rfl, H.out, KeepBut.refl _ _⟩
  | ok p =>
    obtain ⟨h1, h2⟩ := h
    have c0 := h2.cells
    have HB := Lib.hid h2
    have HP := Lib.hid h1
    have HC := Lib.hid hc
    clear h1 h2 hc
    go_enter Tryd.func62, Tryd.ntmps62
    go_wp2_with fail
    refine (faultO_not _ _ _ HC.out _).mono ?_
    rintro e w1 ⟨q, rfl, hq, hB, hk⟩
    have B1 := HB.out.keep hk
    have c1 := B1.cells
    have f1 := B1.thawed
    have HB1 := Lib.hid B1
    have HQ := Lib.hid hB
    have HK := Lib.hid hk
    have NQ := Lib.hid (show q ≠ r from fun e => by have := HB.out.lt; omega)
    clear hB hk B1 hq c0
    unfold faultP
    go_wp2_with fail
    go_end0
    refine ⟨rfl, ⟨q, p, HP.out, NQ.out, HC.out, ?_, HQ.out.other NQ.out _⟩, KeepBut.setAt (S := fun z => z = r) (.inl rfl) (HK.out.but _) _⟩
    simpa [faultP] using HB1.out.set 2 (faultP q)
/-- A part of what lies in a row of bytes. -/
theorem SlAt.sliced {w : World} {p : Option Addr} {n cap : Nat} {l : List Nat} (h : SlAt w (.slice p n cap) n (l.map byteV)) (hl : l.length = n) (k m : Nat) (hkm : k + m ≤ n) : SlAt w (sliced p k (k + m) cap 1) m (((l.drop k).take m).map byteV) := by
  obtain ⟨p', cap', e, h1, h2, h3⟩ := h
  simp only [Value.slice.injEq, true_and] at e
  obtain ⟨rfl, rfl⟩ := e
  refine ⟨if cap = k then p else p.map (·.add (k * 1)), cap - k, ?_, by omega, by omega, ?_⟩
  · show Value.slice _ _ _ = Value.slice _ _ _
    rw [show k + m - k = m by omega]
  · rcases h3 with h3 | ⟨b, off, rfl, h4, h5⟩
    · left
      have : l = [] := List.map_eq_nil_iff.1 h3
      subst this
      simp
    · by_cases hm : m = 0
      · left; subst hm; simp
      · refine .inr ⟨b, off + k, ?_, h4, fun i x hx => ?_⟩
        · rw [if_neg (by omega), Nat.mul_one]
          simp only [Option.map_some, Option.some.injEq]
          unfold Addr.add
          split <;> simp_all
        · rw [List.getElem?_map, Option.map_eq_some_iff] at hx
          obtain ⟨y, hy, rfl⟩ := hx
          rw [List.getElem?_take] at hy
          split at hy
          · rw [List.getElem?_drop] at hy
            have := h5 (k + i) (byteV y) (by rw [List.getElem?_map, hy]; rfl)
            rwa [← Nat.add_assoc] at this
          · cases hy
end Go.Proofs.YtahnbeoacdnhjaaDoor

/- The program's take: the next bytes. -/
namespace Go.Proofs.YtahnbeoacdnhjaaDoor
set_option linter.unusedVariables false
set_option linter.unusedSimpArgs false
open Go Go.RowKit
/-- What take answers. -/
def TakeV (w0 : World) (n : Nat) (_w : World) (bs : List Nat) (v : Value) : Prop := SlAt w0 v bs.length (bs.map byteV) ∧ (∀ x ∈ bs, x < 256) ∧ (bs = [] ∨ bs.length = n)
theorem TakeV.none (w0 : World) (n : Nat) (w : World) : TakeV w0 n w [] (.slice none 0 0) := ⟨⟨_, 0, rfl, Nat.le_refl _, Nat.zero_le _, .inl rfl⟩, fun _ h => (nomatch h), .inl rfl⟩
theorem sizeU8 (w : World) : (sizeOf 5).run Tryd.prog w = .ok 1 w := by kernel_rfl
theorem elemU8 : Tryd.prog.elem 22 = 5 := by kernel_rfl
set_option maxRecDepth 100000 in
theorem slice_u8 (a : Option Addr) (n cap k m : Nat) (h2 : k + m ≤ cap) (w : World) : (Instr.slice 22 (.slice a n cap) (some (.int .i64 (k : Int))) (some (.int .i64 ((k : Int) + (m : Int)))) none).run Tryd.prog w = .ok (sliced a k (k + m) cap 1) w := by
  rw [run_slice_lh w 22 a n cap Tryd.underlying22 .i64 .i64 (k : Int) ((k : Int) + (m : Int)) (by omega) (by omega) (by omega), elemU8, sizeU8]
  simp only [Result.andThen_ok]
  congr 2
set_option maxHeartbeats 4000000 in
set_option maxRecDepth 100000 in
theorem ptake_any (w0 : World) (r : Nat) (vb : Value) (l : List Nat) (hx : RCtx w0 r vb l) (S : RSt) (n : Nat) (hn : n ≤ 4294967296) (w : World) (h : RdSt w r vb l S) :
    Calls Tryd.prog 61 #[.pointer (some ⟨r, 0, none⟩), .int .i64 (n : Int)] w (RdPost r vb l (S.run fun p => takeR l n p) (TakeV w0 n) w) := by
  have HX := Lib.hid hx
  have few := hx.few
  have lies := Lib.hid hx.lies
  obtain ⟨vp, vc, rfl, hvc, hvm, _⟩ := hx.lies
  clear hx
  cases S with
  | error e =>
    obtain ⟨a1, c1⟩ := e
    rw [RSt.run_bad]
    have H := Lib.hid h
    obtain ⟨q, p, h1, h2, h3, h4, h5⟩ := h
    have c0 := h4.cells
    unfold faultP at c0
    have HB := Lib.hid h4
    have hw : IntKind.i64.wrap ((l.length : Int) - (p : Int)) = (l.length : Int) - (p : Int) := by rw [IntKind.wrap_i64]; omega
    clear h2 h3 h4 h5
    by_cases hl : (l.length : Int) - (p : Int) < (n : Int)
    · have hd : decide ((l.length : Int) - (p : Int) < (n : Int)) = true := decide_eq_true hl
      go_enter Tryd.func61, Tryd.ntmps61
      go_wp2_with fail
      refine region_grows (Keep w) (by kernel_rfl) (by kernel_rfl) (Keep.refl _).drew ?_
      repeat (first
        | (apply text_pass (by rfl); go_simp)
        | (apply text_step (by rfl)
           · intro W hW
             have c1 := (HB.out.keep hW).cells
             unfold faultP at c1
             go_simp
             exact ⟨rfl, hW⟩
           go_simp))
      apply text_end
      intro W hW
      have H1 := Lib.hid (H.out.keep hW)
      have HW := Lib.hid hW
      have c1 := (HB.out.keep hW).cells
      unfold faultP at c1
      clear hW c0
      go_wp2_with fail
      refine (prefuse_any r _ l (.error (a1, _)) _ 16 (by decide) _ H1.out).mono ?_
      rintro e w2 ⟨rfl, h2, hk2⟩
      have H2 := Lib.hid h2
      have K2 : Hid (KeepBut (fun z => z = r) w w2) := Lib.hid ((HW.out.but _).trans hk2)
      obtain ⟨q2, p2, _, _, _, h4, _⟩ := h2
      have c2 := h4.cells
      unfold faultP at c2
      clear c1 hk2 h4
      go_wp2_with fail
      go_ret
      exact ⟨_, [], .error (a1, _), rfl, TakeV.none _ _ _, H2.out, rfl, K2.out⟩
    · have hd : decide ((l.length : Int) - (p : Int) < (n : Int)) = false := decide_eq_false hl
      go_enter Tryd.func61, Tryd.ntmps61
      go_wp2_with fail
      refine region_grows (Keep w) (by kernel_rfl) (by kernel_rfl) (Keep.refl _).drew ?_
      repeat (first
        | (apply text_pass (by rfl); go_simp)
        | (apply text_step (by rfl)
           · intro W hW
             have c1 := (HB.out.keep hW).cells
             unfold faultP at c1
             go_simp
             exact ⟨rfl, hW⟩
           go_simp))
      apply text_end
      intro W hW
      have H1 := Lib.hid (H.out.keep hW)
      have HW := Lib.hid hW
      have c1 := (HB.out.keep hW).cells
      unfold faultP at c1
      clear hW c0
      go_wp2_with fail
      go_ret
      exact ⟨_, [], .error (a1, _), rfl, TakeV.none _ _ _, H1.out, rfl, HW.out.but _⟩
  | ok p =>
    rw [RSt.run_ok]
    have H := Lib.hid h
    obtain ⟨h1, h4⟩ := h
    have c0 := h4.cells
    have HB := Lib.hid h4
    have hw : IntKind.i64.wrap ((l.length : Int) - (p : Int)) = (l.length : Int) - (p : Int) := by rw [IntKind.wrap_i64]; omega
    clear h4
    by_cases hl : (l.length : Int) - (p : Int) < (n : Int)
    · have hd : decide ((l.length : Int) - (p : Int) < (n : Int)) = true := decide_eq_true hl
      have HE : Hid (takeR l n p = .error ((l.length : Int), 16)) := Lib.hid (by unfold takeR; rw [if_neg (by omega)])
      go_enter Tryd.func61, Tryd.ntmps61
      go_wp2_with fail
      refine region_grows (Keep w) (by kernel_rfl) (by kernel_rfl) (Keep.refl _).drew ?_
      repeat (first
        | (apply text_pass (by rfl); go_simp)
        | (apply text_step (by rfl)
           · intro W hW
             have c1 := (HB.out.keep hW).cells
             go_simp
             exact ⟨rfl, hW⟩
           go_simp))
      apply text_end
      intro W hW
      have H1 := Lib.hid (H.out.keep hW)
      have HW := Lib.hid hW
      have c1 := (HB.out.keep hW).cells
      clear hW c0
      go_wp2_with fail
      refine (prefuse_any r _ l (.ok p) _ 16 (by decide) _ H1.out).mono ?_
      rintro e w2 ⟨rfl, h2, hk2⟩
      have H2 := Lib.hid h2
      have K2 : Hid (KeepBut (fun z => z = r) w w2) := Lib.hid ((HW.out.but _).trans hk2)
      obtain ⟨q2, p2, _, _, _, h4, _⟩ := h2
      have c2 := h4.cells
      unfold faultP at c2
      clear c1 hk2 h4
      go_wp2_with fail
      go_ret
      exact ⟨_, [], .error ((l.length : Int), 16), rfl, TakeV.none _ _ _, H2.out, by rw [HE.out] <;> rfl, K2.out⟩
    · have hd : decide ((l.length : Int) - (p : Int) < (n : Int)) = false := decide_eq_false hl
      have hpn : p + n ≤ l.length := by omega
      have hwp : IntKind.i64.wrap (p : Int) = (p : Int) := by rw [IntKind.wrap_i64]; omega
      have HE : Hid (takeR l n p = .ok ((l.drop p).take n, p + n)) := Lib.hid (by unfold takeR; rw [if_pos hpn])
      have LB : ((l.drop p).take n).length = n := by simp; omega
      have HL := Lib.hid LB
      clear LB
      obtain ⟨V, hV⟩ : ∃ V, V = sliced vp p (p + n) vc 1 := ⟨_, rfl⟩
      have SL := Lib.hid (fun W => slice_u8 vp l.length vc p n (by omega) W)
      have HV : Hid (TakeV w0 n w ((l.drop p).take n) V) := Lib.hid ⟨by rw [hV, HL.out]; exact SlAt.sliced lies.out rfl p n hpn, fun x hx => HX.out.bytes x (List.mem_of_mem_drop (List.mem_of_mem_take hx)), .inr HL.out⟩
      rw [← hV] at SL
      clear hV
      go_enter Tryd.func61, Tryd.ntmps61
      go_wp2_with fail
      refine region_grows (Keep w) (by kernel_rfl) (by kernel_rfl) (Keep.refl _).drew ?_
      repeat (first
        | (apply text_pass (by rfl); go_simp)
        | (apply text_step (by rfl)
           · intro W hW
             have c1 := (HB.out.keep hW).cells
             go_simp
             exact ⟨rfl, hW⟩
           go_simp))
      apply text_end
      intro W hW
      have HW := Lib.hid hW
      have B1 := HB.out.keep hW
      have c1 := B1.cells
      have f1 := B1.thawed
      have N1 := Lib.hid (B1.set 1 (.int .i64 ((p : Int) + (n : Int))))
      clear hW c0 B1
      go_wp2_with fail
      have B2 : Hid (Box (W.setCell ⟨r, 1, none⟩ (.int .i64 ((p : Int) + (n : Int)))) r #[.slice vp l.length vc, .int .i64 ((p : Int) + (n : Int)), .nilIface]) := Lib.hid (by simpa using N1.out)
      have K2 : Hid (KeepBut (fun z => z = r) w (W.setCell ⟨r, 1, none⟩ (.int .i64 ((p : Int) + (n : Int))))) := Lib.hid (KeepBut.setAt (S := fun z => z = r) (.inl rfl) (HW.out.but _) _)
      obtain ⟨W2, hW2⟩ : ∃ W2, W2 = W.setCell ⟨r, 1, none⟩ (.int .i64 ((p : Int) + (n : Int))) := ⟨_, rfl⟩
      rw [← hW2] at B2 K2 ⊢
      clear hW2 N1 c1 f1
      refine region_grows (Keep W2) (by kernel_rfl) (by kernel_rfl) (Keep.refl _).drew ?_
      repeat (first
        | (apply text_pass (by rfl); go_simp)
        | (apply text_step (by rfl)
           · intro W hW
             have c1 := (B2.out.keep hW).cells
             have sl := SL.out
             go_simp
             exact ⟨rfl, hW⟩
           go_simp))
      apply text_end
      intro W5 hW5
      have K5 := Lib.hid (K2.out.trans (hW5.but _))
      have B5 := Lib.hid (B2.out.keep hW5)
      clear hW5
      go_wp2_with fail
      go_ret
      exact ⟨V, (l.drop p).take n, .ok (p + n), rfl, HV.out, ⟨hpn, by simpa using B5.out⟩, by rw [HE.out] <;> exact ⟨rfl, rfl⟩, K5.out⟩
end Go.Proofs.YtahnbeoacdnhjaaDoor

/- The program's number, within, count. -/
namespace Go.Proofs.YtahnbeoacdnhjaaDoor
set_option linter.unusedVariables false
set_option linter.unusedSimpArgs false
open Go Go.RowKit
theorem or_natO (X Z p : Nat) (h : X < 2 ^ p) : X ||| Z * 2 ^ p = X + Z * 2 ^ p := by
  have h2 := Nat.two_pow_add_eq_or_of_lt h Z
  rw [Nat.mul_comm Z, Nat.or_comm, ← h2, Nat.add_comm]
theorem or_atO (X Z p Q : Nat) (hq : Q = 2 ^ p) (h1 : 256 * Q ≤ 4294967296) (hx : X < Q) (hz : Z < 256) : bits .or .u32 (X : Int) ((Z : Int) * (Q : Int)) = ((X + Z * Q : Nat) : Int) := by
  have hm : Z * Q ≤ 255 * Q := Nat.mul_le_mul_right _ (by omega)
  have h3 := or_natO X Z p (by rw [← hq]; exact hx)
  rw [← hq] at h3
  rw [← Int.natCast_mul, u32_or _ _ (by omega) (by omega) (by omega) (by omega)]
  simp only [Int.toNat_natCast, h3]
theorem or_zero (a : Nat) (ha : a < 256) : bits .or .u32 0 (a : Int) = (a : Int) := by
  have := or_atO 0 a 0 1 rfl (by decide) (by decide) ha
  simpa using this
theorem or_four (a b c d : Nat) (ha : a < 256) (hb : b < 256) (hc : c < 256) (hd : d < 256) : bits .or .u32 (bits .or .u32 (bits .or .u32 (bits .or .u32 0 (a : Int)) ((b : Int) * 256)) ((c : Int) * 65536)) ((d : Int) * 16777216) = ((a + b * 256 + c * 65536 + d * 16777216 : Nat) : Int) := by
  rw [or_zero a ha]
  have h1 := or_atO a b 8 256 rfl (by decide) (by omega) hb
  have h2 := or_atO (a + b * 256) c 16 65536 rfl (by decide) (by omega) hc
  have h3 := or_atO (a + b * 256 + c * 65536) d 24 16777216 rfl (by decide) (by omega) hd
  rw [show ((256 : Nat) : Int) = 256 from rfl] at h1
  rw [show ((65536 : Nat) : Int) = 65536 from rfl] at h2
  rw [show ((16777216 : Nat) : Int) = 16777216 from rfl] at h3
  rw [h1, h2, h3]
/-- The number that some bytes are. -/
def numB (n : Nat) (b : List Nat) : Nat := if n = 1 then b.getD 0 0 else word4 b
def numRN (l : List Nat) (n p : Nat) : Rd Nat := thenR (takeR l n p) fun b q => .ok (numB n b, q)
theorem numRN_one (l : List Nat) : numRN l 1 = byteR l := rfl
theorem numRN_four (l : List Nat) : numRN l 4 = numR l := rfl
/-- What number answers. -/
def NumV (n : Nat) (_w : World) (a : Nat) (v : Value) : Prop := v = .int .u32 (a : Int) ∧ a < 4294967296 ∧ (n = 1 → a < 256)
set_option maxHeartbeats 4000000 in
set_option maxRecDepth 100000 in
theorem pnumber_any (w0 : World) (r : Nat) (vb : Value) (l : List Nat) (hx : RCtx w0 r vb l) (S : RSt) (n : Nat) (hn : n = 1 ∨ n = 4) (w : World) (h : RdSt w r vb l S) (k0 : Keep w0 w) :
    Calls Tryd.prog 63 #[.pointer (some ⟨r, 0, none⟩), .int .i64 (n : Int)] w (RdPost r vb l (S.run (numRN l n)) (NumV n) w) := by
  have CT := Lib.hid (ptake_any w0 r vb l hx S n (by omega) w h)
  have HN := Lib.hid hx.new
  have HK0 := Lib.hid k0
  have HM := Lib.hid hn
  clear h hx k0 hn
  go_enter Tryd.func63, Tryd.ntmps63
  go_wp2_with fail
  refine CT.out.mono ?_
  rintro e w1 ⟨v, bs, S', rfl, ⟨hsl, hb, hlen⟩, hst, hgot, hk⟩
  have K1 := Lib.hid (HK0.out.butNew hk (fun x hx => by rw [hx]; exact HN.out))
  have ST := Lib.hid hst
  have HK := Lib.hid hk
  have G : Hid (Got (S.run (numRN l n)) (numB n bs) S') := Lib.hid (by
    have e := Got.next (fun b q => (.ok (numB n b, q) : Rd Nat)) hgot
    unfold numRN
    rw [e]
    exact Got.last _)
  have HSL := Lib.hid (hsl.keep K1.out)
  clear hst hgot hk hsl CT
  rcases hlen with rfl | hlen
  · obtain ⟨p, cap, rfl, _, _, _⟩ := HSL.out
    go_wp2_with fail
    refine wp_loop_rounds 1 ?_
    rw [rounds_succ]
    go_wp2_with fail
    go_ret
    refine ⟨_, numB n [], S', rfl, ⟨?_, ?_, ?_⟩, ST.out, G.out, HK.out⟩
    · rcases HM.out with rfl | rfl <;> rfl
    · rcases HM.out with rfl | rfl <;> decide
    · intro e; subst e; decide
  · obtain ⟨p, cap, rfl, hcap, _, hc⟩ := HSL.out
    rcases hc with hc | ⟨g, off, rfl, _, hc⟩
    · exfalso
      have := List.map_eq_nil_iff.1 hc
      subst this
      have := HM.out
      simp at hlen
      omega
    rcases HM.out with rfl | rfl
    · match bs, hlen with
      | [a], _ =>
        have ha := hb a (by simp)
        have c0 := hc 0 _ rfl
        simp only [Nat.add_zero, byteV] at c0
        have HA := Lib.hid ha
        simp only [List.length_cons, List.length_nil, Nat.zero_add] at hcap
        clear hc hb
        go_wp2_with fail
        refine wp_loop_rounds 2 ?_
        rw [rounds_succ]
        go_wp2_with fail
        rw [rounds_succ]
        go_wp2_with fail
        go_ret
        exact ⟨.int .u32 (a : Int), a, S', congrArg (fun z => Ending.returned (Value.int .u32 z)) (or_zero a HA.out), ⟨rfl, by have := HA.out; omega, fun _ => HA.out⟩, ST.out, G.out, HK.out⟩
    · match bs, hlen with
      | [a, b, c, d], _ =>
        have ha := hb a (by simp)
        have hb2 := hb b (by simp)
        have hc2 := hb c (by simp)
        have hd := hb d (by simp)
        have c0 := hc 0 _ rfl
        have c1 := hc 1 _ rfl
        have c2 := hc 2 _ rfl
        have c3 := hc 3 _ rfl
        simp only [Nat.add_zero, byteV] at c0 c1 c2 c3
        have OR := Lib.hid (or_four a b c d ha hb2 hc2 hd)
        have WB : Hid (a + b * 256 + c * 65536 + d * 16777216 < 4294967296) := Lib.hid (by omega)
        simp only [List.length_cons, List.length_nil, Nat.zero_add] at hcap
        clear hc hb
        go_wp2_with fail
        refine wp_loop_rounds 5 ?_
        rw [rounds_succ]
        go_wp2_with fail
        rw [rounds_succ]
        go_wp2_with fail
        rw [rounds_succ]
        go_wp2_with fail
        rw [rounds_succ]
        go_wp2_with fail
        rw [rounds_succ]
        go_wp2_with fail
        go_ret
        exact ⟨.int .u32 ((a + b * 256 + c * 65536 + d * 16777216 : Nat) : Int), _, S', congrArg (fun z => Ending.returned (Value.int .u32 z)) OR.out, ⟨rfl, WB.out, fun h => (nomatch h)⟩, ST.out, G.out, HK.out⟩
end Go.Proofs.YtahnbeoacdnhjaaDoor

/- The program's within, count; a text, a section that is read. -/
namespace Go.Proofs.YtahnbeoacdnhjaaDoor
set_option linter.unusedVariables false
set_option linter.unusedSimpArgs false
open Go Go.RowKit
def withR (l : List Nat) (n least most : Nat) (c : Int) (p : Nat) : Rd Nat := thenR (numRN l n p) fun a q => if a < least ∨ most < a then .error ((p : Int), c) else .ok (a, q)
theorem withR_most (l : List Nat) (m : Nat) (c : Int) : withR l 4 0 m c = mostR l m c := by
  funext p
  unfold withR mostR
  rw [numRN_four]
  congr 1
  funext a q
  simp
theorem withR_upto (l : List Nat) (a b : Nat) : withR l 1 a b 11 = uptoR l a b := rfl
theorem withR_out {l : List Nat} {n least most : Nat} {c at_ : Int} {S S' : RSt} {a : Nat} (h : Got (S.run (numRN l n)) a S') (hat : ∀ p : Nat, S = .ok p → at_ = p) (ha : a < least ∨ most < a) : Got (S.run (withR l n least most c)) 0 (S'.refuse at_ c) := by
  cases S with
  | error e =>
    simp only [RSt.run, Got] at h ⊢
    rw [h]
    rfl
  | ok p =>
    have e := Got.next (S := .ok p) (f := numRN l n) (fun a q => (if a < least ∨ most < a then .error ((p : Int), c) else .ok (a, q) : Rd Nat)) h
    have e2 : (RSt.run (.ok p) (withR l n least most c)) = _ := e
    rw [e2]
    cases S' with
    | error e => rfl
    | ok q =>
      rw [RSt.run_ok, if_pos ha, hat p rfl]
      rfl
theorem withR_in {l : List Nat} {n least most : Nat} {c : Int} {S S' : RSt} {a : Nat} (h : Got (S.run (numRN l n)) a S') (ha : ¬ (a < least ∨ most < a)) : Got (S.run (withR l n least most c)) a S' := by
  cases S with
  | error e => exact h
  | ok p =>
    have e := Got.next (S := .ok p) (f := numRN l n) (fun a q => (if a < least ∨ most < a then .error ((p : Int), c) else .ok (a, q) : Rd Nat)) h
    have e2 : (RSt.run (.ok p) (withR l n least most c)) = _ := e
    rw [e2]
    cases S' with
    | error e => rfl
    | ok q =>
      rw [RSt.run_ok, if_neg ha]
      exact ⟨rfl, rfl⟩
/-- The reader's cells, whatever its state. -/
theorem RdSt.box {w : World} {r : Nat} {vb : Value} {l : List Nat} {S : RSt} (h : RdSt w r vb l S) : ∃ (p : Nat) (u : Value), Box w r #[vb, .int .i64 (p : Int), u] ∧ ∀ p' : Nat, S = .ok p' → (p : Int) = p' := by
  cases S with
  | ok p => exact ⟨p, _, h.2, fun p' e => by cases e; rfl⟩
  | error e =>
    obtain ⟨q, p, h1, h2, h3, h4, h5⟩ := h
    exact ⟨p, _, h4, fun p' e => by cases e⟩
/-- What within answers. -/
def WithV (most : Nat) (_w : World) (a : Nat) (v : Value) : Prop := v = .int .u32 (a : Int) ∧ a ≤ most
set_option maxHeartbeats 4000000 in
set_option maxRecDepth 100000 in
theorem pwithin_any (w0 : World) (r : Nat) (vb : Value) (l : List Nat) (hx : RCtx w0 r vb l) (S : RSt) (n least most : Nat) (c : Int) (hn : n = 1 ∨ n = 4) (hm : most < 4294967296) (hl : least < 4294967296) (hc : c ≠ 0) (w : World) (h : RdSt w r vb l S) (k0 : Keep w0 w) :
    Calls Tryd.prog 64 #[.pointer (some ⟨r, 0, none⟩), .int .i64 (n : Int), .int .u32 (least : Int), .int .u32 (most : Int), .int .i64 c] w (RdPost r vb l (S.run (withR l n least most c)) (WithV most) w) := by
  have CN := Lib.hid (pnumber_any w0 r vb l hx S n hn w h k0)
  obtain ⟨p, u, hB, hat⟩ := h.box
  have c0 := hB.cells
  have HA := Lib.hid hat
  have HC := Lib.hid hc
  clear hx h k0 hB hat hc
  go_enter Tryd.func64, Tryd.ntmps64
  go_wp2_with fail
  refine CN.out.mono ?_
  rintro e w1 ⟨v, a, S', rfl, ⟨rfl, ha, _⟩, hst, hgot, hk⟩
  have ST := Lib.hid hst
  have HG := Lib.hid hgot
  have HK := Lib.hid hk
  clear hst hgot hk CN c0
  by_cases ho : a < least ∨ most < a
  · have CR := Lib.hid (prefuse_any r vb l S' (p : Int) c HC.out w1 ST.out)
    have GX := Lib.hid (withR_out (c := c) HG.out HA.out ho)
    by_cases h1 : a < least
    · have d1 : decide ((a : Int) < (least : Int)) = true := decide_eq_true (by omega)
      go_wp2_with fail
      refine CR.out.mono ?_
      rintro e w2 ⟨rfl, h2, hk2⟩
      have ST2 := Lib.hid h2
      have K2 := Lib.hid (HK.out.trans hk2)
      clear h2 hk2
      go_wp2_with fail
      go_ret
      exact ⟨_, 0, _, rfl, ⟨rfl, Nat.zero_le _⟩, ST2.out, GX.out, K2.out⟩
    · have d1 : decide ((a : Int) < (least : Int)) = false := decide_eq_false (by omega)
      have d2 : decide ((most : Int) < (a : Int)) = true := decide_eq_true (by omega)
      go_wp2_with fail
      refine CR.out.mono ?_
      rintro e w2 ⟨rfl, h2, hk2⟩
      have ST2 := Lib.hid h2
      have K2 := Lib.hid (HK.out.trans hk2)
      clear h2 hk2
      go_wp2_with fail
      go_ret
      exact ⟨_, 0, _, rfl, ⟨rfl, Nat.zero_le _⟩, ST2.out, GX.out, K2.out⟩
  · have GX := Lib.hid (withR_in (c := c) HG.out ho)
    have LE := Lib.hid (show a ≤ most by omega)
    have d1 : decide ((a : Int) < (least : Int)) = false := decide_eq_false (by omega)
    have d2 : decide ((most : Int) < (a : Int)) = false := decide_eq_false (by omega)
    go_wp2_with fail
    go_ret
    exact ⟨_, a, S', rfl, ⟨rfl, LE.out⟩, ST.out, GX.out, HK.out⟩
set_option maxHeartbeats 4000000 in
set_option maxRecDepth 100000 in
theorem pcount_any (w0 : World) (r : Nat) (vb : Value) (l : List Nat) (hx : RCtx w0 r vb l) (S : RSt) (w : World) (h : RdSt w r vb l S) (k0 : Keep w0 w) :
    Calls Tryd.prog 44 #[.pointer (some ⟨r, 0, none⟩)] w (RdPost r vb l (S.run (mostR l 256 15)) (WithV 256) w) := by
  have C := Lib.hid (pwithin_any w0 r vb l hx S 4 0 256 15 (.inr rfl) (by decide) (by decide) (by decide) w h k0)
  rw [withR_most] at C
  clear hx h k0
  go_enter Tryd.func44, Tryd.ntmps44
  go_wp2_with fail
  refine C.out.mono ?_
  rintro e w1 ⟨v, a, S', rfl, hv, hst, hgot, hk⟩
  have HP : Hid (RdPost r vb l (S.run (mostR l 256 15)) (WithV 256) w (.returned v) w1) := Lib.hid ⟨v, a, S', rfl, hv, hst, hgot, hk⟩
  clear hv hst hgot hk C
  go_wp2_with fail
  go_ret
  exact HP.out
end Go.Proofs.YtahnbeoacdnhjaaDoor

/- The program's text, section: what is read of them. -/
namespace Go.Proofs.YtahnbeoacdnhjaaDoor
set_option linter.unusedVariables false
set_option linter.unusedSimpArgs false
open Go Go.RowKit
def strOf (b : List Nat) : ByteArray := ⟨(b.map UInt8.ofNat).toArray⟩
theorem conv_bytes {w : World} {v : Value} {b : List Nat} (h : SlAt w v b.length (b.map byteV)) : (convert 22 9 v).run Tryd.prog w = .ok (.string (strOf b)) w := by
  obtain ⟨p, cap, rfl, _, _, hc⟩ := h
  have e : strOfNums (b.map Int.ofNat) = strOf b := by
    unfold strOfNums strOf
    rw [List.map_map]
    rfl
  cases p with
  | none =>
    have hb : b = [] := by
      rcases hc with hc | ⟨g, off, hp, _⟩
      · exact List.map_eq_nil_iff.1 hc
      · cases hp
    subst hb
    exact run_convert_bytes_nil w 22 5 Tryd.underlying22 Tryd.underlying5 _ _ 9 Tryd.underlying9
  | some ad =>
    have hl : (loadCells ad b.length).run Tryd.prog w = .ok ((b.map Int.ofNat).map (Value.int .u8)).toArray w := by
      have := run_loadCells_list (P := Tryd.prog) w ad ((b.map Int.ofNat).map (Value.int .u8)) (fun j u hj => by
        rcases hc with hc | ⟨g, off, hp, _, hc⟩
        · have : b = [] := List.map_eq_nil_iff.1 hc
          subst this
          simp at hj
        · cases hp
          rw [show (⟨g, off, none⟩ : Addr).add j = ⟨g, off + j, none⟩ by unfold Addr.add; split <;> simp_all]
          refine hc j u ?_
          rw [List.map_map] at hj
          exact hj)
      simpa using this
    rw [run_convert_bytes_string w 22 9 5 _ _ cap Tryd.underlying22 Tryd.underlying5 Tryd.underlying9, run_bytesToString w _ _ cap _ hl, foldl_push_bytes, ← e]
    simp [strOfNums, ByteArray.empty, ByteArray.emptyWithCapacity]
    rfl
theorem strOf_size (b : List Nat) : (strOf b).size = b.length := by
  show ((b.map UInt8.ofNat).toArray).size = _
  simp
/-- What text answers. -/
def TextV (_w : World) (s : ByteArray) (v : Value) : Prop := v = .string s ∧ s.size ≤ 255
set_option maxHeartbeats 4000000 in
set_option maxRecDepth 100000 in
theorem ptextR_any (w0 : World) (r : Nat) (vb : Value) (l : List Nat) (hx : RCtx w0 r vb l) (S : RSt) (w : World) (h : RdSt w r vb l S) (k0 : Keep w0 w) :
    Calls Tryd.prog 42 #[.pointer (some ⟨r, 0, none⟩)] w (RdPost r vb l (S.run (strR l)) TextV w) := by
  have CN := Lib.hid (pnumber_any w0 r vb l hx S 1 (.inl rfl) w h k0)
  have HX := Lib.hid hx
  have K0 := Lib.hid k0
  clear hx h k0
  go_enter Tryd.func42, Tryd.ntmps42
  go_wp2_with fail
  refine CN.out.mono ?_
  rintro e w1 ⟨v, a, S1, rfl, ⟨rfl, _, ha⟩, hst, hgot, hk⟩
  have a1 : a < 256 := ha rfl
  have G1 := Lib.hid hgot
  have KB1 := Lib.hid hk
  have CT := Lib.hid (ptake_any w0 r vb l HX.out S1 a (by omega) w1 hst)
  clear hst hgot hk ha CN
  go_wp2_with fail
  refine CT.out.mono ?_
  rintro e w2 ⟨v, bs, S2, rfl, ⟨hsl, hb, hlen⟩, hst, hgot, hk⟩
  have KB2 := Lib.hid (KB1.out.trans hk)
  have K2 := Lib.hid (K0.out.butNew KB2.out (fun x hx => by rw [hx]; exact HX.out.new))
  have CV := conv_bytes (hsl.keep K2.out)
  have ST := Lib.hid hst
  have G2 := Lib.hid hgot
  have HL := Lib.hid hlen
  obtain ⟨pv, cv, rfl, _, _, _⟩ := hsl
  clear hst hgot hk hb hlen CT
  go_wp2_with fail
  go_ret
  refine ⟨_, strOf bs, S2, rfl, ⟨rfl, ?_⟩, ST.out, ?_, KB2.out⟩
  · rw [strOf_size]
    rcases HL.out with rfl | e
    · exact Nat.zero_le _
    · omega
  · have e1 := Got.next (fun n p => thenR (takeR l n p) fun b q => (.ok ((⟨(b.map UInt8.ofNat).toArray⟩ : ByteArray), q) : Rd ByteArray)) G1.out
    have e2 := Got.next (fun b q => (.ok ((⟨(b.map UInt8.ofNat).toArray⟩ : ByteArray), q) : Rd ByteArray)) G2.out
    have e3 : S.run (strR l) = S2.run fun q => .ok (strOf bs, q) := e1.trans e2
    rw [e3]
    exact Got.last _
/-- What section answers. -/
def SecV (r : Nat) (w : World) (b : List Nat) (v : Value) : Prop := Own8 w (r + 1) v b ∧ b.length ≤ 16384 ∧ ∀ x ∈ b, x < 256
set_option maxHeartbeats 4000000 in
set_option maxRecDepth 100000 in
theorem psecR_any (w0 : World) (r : Nat) (vb : Value) (l : List Nat) (hx : RCtx w0 r vb l) (S : RSt) (w : World) (h : RdSt w r vb l S) (k0 : Keep w0 w) :
    Calls Tryd.prog 43 #[.pointer (some ⟨r, 0, none⟩)] w (RdPost r vb l (S.run (secR l)) (SecV r) w) := by
  obtain ⟨i0, hi0, hz0, hz1, hz2⟩ := oinfo_parts infoU8
  have CN := Lib.hid (pwithin_any w0 r vb l hx S 4 0 16384 15 (.inr rfl) (by decide) (by decide) (by decide) w h k0)
  rw [withR_most] at CN
  have HX := Lib.hid hx
  have K0 := Lib.hid k0
  clear hx h k0
  go_enter Tryd.func43, Tryd.ntmps43
  go_wp2_with fail
  refine CN.out.mono ?_
  rintro e w1 ⟨v, a, S1, rfl, ⟨rfl, ha⟩, hst, hgot, hk⟩
  have G1 := Lib.hid hgot
  have KB1 := Lib.hid hk
  have CT := Lib.hid (ptake_any w0 r vb l HX.out S1 a (by omega) w1 hst)
  clear hst hgot hk CN
  go_wp2_with fail
  refine CT.out.mono ?_
  rintro e w2 ⟨v, bs, S2, rfl, ⟨hsl, hb, hlen⟩, hst, hgot, hk⟩
  have KB2 := Lib.hid (KB1.out.trans hk)
  have K2 := Lib.hid (K0.out.butNew KB2.out (fun x hx => by rw [hx]; exact HX.out.new))
  have SR := Lib.hid (SlAt.src (P := Tryd.prog) Tryd.underlying22 (hsl.keep K2.out))
  have ST := Lib.hid hst
  have G2 := Lib.hid hgot
  have HL := Lib.hid (show bs.length ≤ 16384 by rcases hlen with rfl | e; exact Nat.zero_le _; omega)
  have HB := Lib.hid hb
  have LT := Lib.hid hst.lt
  clear hst hgot hk hb hlen CT hsl
  go_wp2_with (at_builtin; (refine wpList_append_src_at rfl _ _ 22 22 rfl (r + 1) 5 i0 _ 1 1 Tryd.underlying22 hi0 hz0 hz1 hz2 rfl (.slice none 0 0) 0 [] rfl (World.ownsRow_nil _ _ _ _) _ bs.length (bs.map byteV) rfl SR.out ?e1 ?f1 ?g1 ?_))
  case e1 => have := HL.out; unfold maxLen; omega
  case f1 => have := HL.out; omega
  case g1 => exact LT.out
  intro v3 w3 hown hgrow hblk
  have H3 : Hid (SecV r w3 bs v3) := Lib.hid ⟨by unfold Own8; simpa using hown, HL.out, HB.out⟩
  have KB3 := Lib.hid (KB2.out.trans (grown_but hgrow (fun z => z = r) (fun g h => (nomatch h))))
  have ST3 := Lib.hid (show RdSt w3 r vb l S2 from ST.out.keep (grow_keep0 (Keep.refl w2) hgrow (fun g h => (nomatch h))))
  clear hown hgrow hblk
  go_wp2_with fail
  go_ret
  refine ⟨_, bs, S2, rfl, H3.out, ST3.out, ?_, KB3.out⟩
  have e1 := Got.next (fun n p => takeR l n p) G1.out
  have e3 : S.run (secR l) = _ := e1
  rw [e3]
  exact G2.out
end Go.Proofs.YtahnbeoacdnhjaaDoor

/- The program's begin, end, symbol, relocation, as they are read. -/
namespace Go.Proofs.YtahnbeoacdnhjaaDoor
set_option linter.unusedVariables false
set_option linter.unusedSimpArgs false
open Go Go.RowKit
theorem strOf_head {b : List Nat} (hb : ∀ x ∈ b, x < 256) : ((strOf b).toList == [72, 79, 66, 74]) = decide (b = hobj) := by
  rw [ByteArray.toList_eq]
  show ((b.map UInt8.ofNat) == [72, 79, 66, 74]) = _
  by_cases h : b = hobj
  · subst h; rfl
  · rw [decide_eq_false h, beq_eq_false_iff_ne]
    intro e
    apply h
    have e2 := congrArg (List.map UInt8.toNat) e
    rw [List.map_map] at e2
    have e3 : b.map (UInt8.toNat ∘ UInt8.ofNat) = b := by
      conv => rhs; rw [← List.map_id b]
      refine List.map_congr_left fun x hx => ?_
      have := hb x hx
      simp only [Function.comp_apply, id, UInt8.toNat_ofNat']
      omega
    rw [e3] at e2
    rw [e2]
    rfl
/-- What a reading that answers nothing leaves. -/
def RdPost0 (r : Nat) (vb : Value) (l : List Nat) (X : Rd Unit) (w : World) (e : Ending) (w' : World) : Prop := ∃ S : RSt, e = .returned (.tuple #[]) ∧ RdSt w' r vb l S ∧ Got X () S ∧ KeepBut (fun z => z = r) w w'
set_option maxHeartbeats 4000000 in
set_option maxRecDepth 100000 in
theorem pbegin_any (w0 : World) (r : Nat) (vb : Value) (l : List Nat) (hx : RCtx w0 r vb l) (S : RSt) (w : World) (h : RdSt w r vb l S) (k0 : Keep w0 w) :
    Calls Tryd.prog 41 #[.pointer (some ⟨r, 0, none⟩)] w (RdPost0 r vb l (S.run (headR l hobj)) w) := by
  have CT := Lib.hid (ptake_any w0 r vb l hx S 4 (by decide) w h)
  have HX := Lib.hid hx
  have K0 := Lib.hid k0
  clear hx h k0
  go_enter Tryd.func41, Tryd.ntmps41
  go_wp2_with fail
  refine CT.out.mono ?_
  rintro e w2 ⟨v, bs, S2, rfl, ⟨hsl, hb, hlen⟩, hst, hgot, hk⟩
  have KB2 := Lib.hid hk
  have K2 := Lib.hid (K0.out.butNew KB2.out (fun x hx => by rw [hx]; exact HX.out.new))
  have CV := conv_bytes (hsl.keep K2.out)
  have HD := strOf_head hb
  have ST := Lib.hid hst
  have GX : Hid (S.run (headR l hobj) = S2.run fun p => if bs = hobj then .ok ((), p) else .error (0, 11)) := Lib.hid (Got.next (fun b p => (if b = hobj then .ok ((), p) else .error (0, 11) : Rd Unit)) hgot)
  obtain ⟨pv, cv, rfl, _, _, _⟩ := hsl
  clear hst hgot hk hb hlen CT
  by_cases he : bs = hobj
  · have E := Lib.hid he
    rw [decide_eq_true he] at HD
    have HD2 : ((strOf bs).toList != [72, 79, 66, 74]) = false := by rw [bne, HD]; rfl
    clear he
    go_wp2_with fail
    go_end0
    refine ⟨S2, rfl, ST.out, ?_, KB2.out⟩
    rw [GX.out]
    simp only [if_pos E.out]
    exact Got.last ()
  · have E := Lib.hid he
    rw [decide_eq_false he] at HD
    have HD2 : ((strOf bs).toList != [72, 79, 66, 74]) = true := by rw [bne, HD]; rfl
    clear he
    go_wp2_with fail
    refine (prefuse_any r _ l S2 0 11 (by decide) w2 ST.out).mono ?_
    rintro e w3 ⟨rfl, h3, hk3⟩
    have ST3 := Lib.hid h3
    have K3 := Lib.hid (KB2.out.trans hk3)
    clear h3 hk3
    go_wp2_with fail
    go_end0
    refine ⟨_, rfl, ST3.out, ?_, K3.out⟩
    rw [GX.out]
    simp only [if_neg E.out]
    cases S2 <;> rfl
set_option maxHeartbeats 4000000 in
set_option maxRecDepth 100000 in
theorem pend_rd (w0 : World) (r : Nat) (vb : Value) (l : List Nat) (hx : RCtx w0 r vb l) (S : RSt) (w : World) (h : RdSt w r vb l S) :
    Calls Tryd.prog 47 #[.pointer (some ⟨r, 0, none⟩)] w (RdPost0 r vb l (S.run (endR l)) w) := by
  have few := hx.few
  obtain ⟨vp, vc, rfl, _, _, _⟩ := hx.lies
  obtain ⟨p, u, hB, hat⟩ := h.box
  have HB := Lib.hid hB
  have ST := Lib.hid h
  have HA := Lib.hid hat
  have c0 := hB.cells
  clear hx h hB hat
  by_cases hl : (p : Int) < (l.length : Int)
  · have hd : decide ((p : Int) < (l.length : Int)) = true := decide_eq_true hl
    have GX : Hid (Got (S.run (endR l)) () (S.refuse (p : Int) 11)) := Lib.hid (by
      cases S with
      | error e => rfl
      | ok q =>
        have := HA.out q rfl
        rw [RSt.run_ok]
        unfold endR
        rw [if_pos (by omega), this]
        rfl)
    go_enter Tryd.func47, Tryd.ntmps47
    go_wp2_with fail
    refine region_grows (Keep w) (by kernel_rfl) (by kernel_rfl) (Keep.refl _).drew ?_
    repeat (first
      | (apply text_pass (by rfl); go_simp)
      | (apply text_step (by rfl)
         · intro W hW
           have c1 := (HB.out.keep hW).cells
           go_simp
           exact ⟨rfl, hW⟩
         go_simp))
    apply text_end
    intro W hW
    have HW := Lib.hid hW
    have c1 := (HB.out.keep hW).cells
    have CR := Lib.hid (prefuse_any r _ l S (p : Int) 11 (by decide) W (ST.out.keep hW))
    clear hW c0
    go_wp2_with fail
    refine CR.out.mono ?_
    rintro e w3 ⟨rfl, h3, hk3⟩
    have ST3 := Lib.hid h3
    have K3 := Lib.hid ((HW.out.but _).trans hk3)
    clear h3 hk3
    go_wp2_with fail
    go_end0
    exact ⟨_, rfl, ST3.out, GX.out, K3.out⟩
  · have hd : decide ((p : Int) < (l.length : Int)) = false := decide_eq_false hl
    have GX : Hid (Got (S.run (endR l)) () S) := Lib.hid (by
      cases S with
      | error e => rfl
      | ok q =>
        have := HA.out q rfl
        rw [RSt.run_ok]
        unfold endR
        rw [if_neg (by omega)]
        exact ⟨rfl, rfl⟩)
    go_enter Tryd.func47, Tryd.ntmps47
    go_wp2_with fail
    refine region_grows (Keep w) (by kernel_rfl) (by kernel_rfl) (Keep.refl _).drew ?_
    repeat (first
      | (apply text_pass (by rfl); go_simp)
      | (apply text_step (by rfl)
         · intro W hW
           have c1 := (HB.out.keep hW).cells
           go_simp
           exact ⟨rfl, hW⟩
         go_simp))
    apply text_end
    intro W hW
    have ST3 := Lib.hid (ST.out.keep hW)
    have K3 := Lib.hid (hW.but (fun z => z = r))
    clear hW c0
    go_wp2_with fail
    go_end0
    exact ⟨_, rfl, ST3.out, GX.out, K3.out⟩
/-- A result's block is none of the reader's. -/
theorem RdSt.set {w : World} {r : Nat} {vb : Value} {l : List Nat} {S : RSt} (h : RdSt w r vb l S) {g : Nat} {vs : Array Value} (hB : Box w g vs) (hs : vs.size ≠ 3) (i : Nat) (v : Value) : RdSt (w.setCell ⟨g, i, none⟩ v) r vb l S := by
  have ne : ∀ {b : Nat} {us : Array Value}, Box w b us → us.size = 3 → b ≠ g := fun hb hu e => by
    subst e
    obtain ⟨t1, h1⟩ := hB
    obtain ⟨t2, h2⟩ := hb
    rw [h1] at h2
    cases h2
    exact hs hu
  cases S with
  | ok p => exact ⟨h.1, h.2.other (ne h.2 rfl) v⟩
  | error e =>
    obtain ⟨q, p, h1, h2, h3, h4, h5⟩ := h
    exact ⟨q, p, h1, h2, h3, h4.other (ne h4 rfl) v, h5.other (ne h5 rfl) v⟩
theorem RdSt.set4 {w : World} {r : Nat} {vb : Value} {l : List Nat} {S : RSt} (h : RdSt w r vb l S) {g : Nat} {vs : Array Value} (hB : Box w g vs) (hs : vs.size ≠ 3) (v0 v1 v2 v3 : Value) : RdSt ((((w.setCell ⟨g, 0, none⟩ v0).setCell ⟨g, 1, none⟩ v1).setCell ⟨g, 2, none⟩ v2).setCell ⟨g, 3, none⟩ v3) r vb l S := by
  have b1 := hB.set 0 v0
  have b2 := b1.set 1 v1
  have b3 := b2.set 2 v2
  exact (((h.set hB hs 0 v0).set b1 (by simpa using hs) 1 v1).set b2 (by simpa using hs) 2 v2).set b3 (by simpa using hs) 3 v3
theorem RdSt.set5 {w : World} {r : Nat} {vb : Value} {l : List Nat} {S : RSt} (h : RdSt w r vb l S) {g : Nat} {vs : Array Value} (hB : Box w g vs) (hs : vs.size ≠ 3) (v0 v1 v2 v3 v4 : Value) : RdSt (((((w.setCell ⟨g, 0, none⟩ v0).setCell ⟨g, 1, none⟩ v1).setCell ⟨g, 2, none⟩ v2).setCell ⟨g, 3, none⟩ v3).setCell ⟨g, 4, none⟩ v4) r vb l S := by
  have b1 := hB.set 0 v0
  have b2 := b1.set 1 v1
  have b3 := b2.set 2 v2
  have b4 := b3.set 3 v3
  exact ((((h.set hB hs 0 v0).set b1 (by simpa using hs) 1 v1).set b2 (by simpa using hs) 2 v2).set b3 (by simpa using hs) 3 v3).set b4 (by simpa using hs) 4 v4
/-- What symbol answers. -/
def SymRV (_w : World) (s : SymV) (v : Value) : Prop := v = symVal s ∧ SymOk s ∧ s.name.size ≤ 255
set_option maxHeartbeats 4000000 in
set_option maxRecDepth 100000 in
theorem psymR_any (w0 : World) (r : Nat) (vb : Value) (l : List Nat) (hx : RCtx w0 r vb l) (S : RSt) (w : World) (h : RdSt w r vb l S) (k0 : Keep w0 w) :
    Calls Tryd.prog 45 #[.pointer (some ⟨r, 0, none⟩)] w (RdPost r vb l (S.run (symR l)) SymRV w) := by
  obtain ⟨W0, hW0⟩ : ∃ W0, W0 = w.alloc (.cells #[.string ⟨#[]⟩, .bool false, .int .u32 0, .bool false] 47) := ⟨_, rfl⟩
  have KA : Hid (Keep w W0) := Lib.hid (by rw [hW0]; exact (Keep.refl _).alloc _)
  have R0 : Hid (Box W0 w.heap.size #[.string ⟨#[]⟩, .bool false, .int .u32 0, .bool false]) := Lib.hid (by rw [hW0]; exact Box.new _ _ _)
  have NR := Lib.hid (show w.heap.size ≠ r from fun e => by have := h.lt; omega)
  have HX := Lib.hid hx
  have K0 := Lib.hid (k0.trans KA.out)
  have C1 := Lib.hid (ptextR_any w0 r vb l hx S W0 (h.keep KA.out) K0.out)
  clear hx h k0
  go_enter Tryd.func45, Tryd.ntmps45
  go_wp2_with fail
  rw [← hW0]
  clear hW0
  refine C1.out.mono ?_
  rintro e w1 ⟨v, s, S1, rfl, ⟨rfl, hs⟩, hst, hgot, hk⟩
  have G1 := Lib.hid hgot
  have KB1 := Lib.hid hk
  have HS := Lib.hid hs
  have C2 := Lib.hid (pwithin_any w0 r vb l HX.out S1 1 0 3 11 (.inl rfl) (by decide) (by decide) (by decide) w1 hst (K0.out.butNew KB1.out (fun x hx => by rw [hx]; exact HX.out.new)))
  rw [withR_upto] at C2
  clear hst hgot hk hs C1
  go_wp2_with fail
  refine C2.out.mono ?_
  rintro e w2 ⟨v, f, S2, rfl, ⟨rfl, hf⟩, hst, hgot, hk⟩
  have G2 := Lib.hid hgot
  have KB2 := Lib.hid (KB1.out.trans hk)
  have C3 := Lib.hid (pnumber_any w0 r vb l HX.out S2 4 (.inr rfl) w2 hst (K0.out.butNew KB2.out (fun x hx => by rw [hx]; exact HX.out.new)))
  rw [numRN_four] at C3
  clear hst hgot hk C2
  go_wp2_with fail
  refine C3.out.mono ?_
  rintro e w3 ⟨v, o, S3, rfl, ⟨rfl, ho, _⟩, hst, hgot, hk⟩
  have G3 := Lib.hid hgot
  have KB3 := Lib.hid (KB2.out.trans hk)
  have HO := Lib.hid ho
  have ST := Lib.hid hst
  have R3 := Lib.hid (R0.out.but KB3.out NR.out)
  have r0 := R3.out.cells
  have rf := R3.out.thawed
  obtain ⟨d, hd⟩ : ∃ d, d = decide (f % 2 = 1) := ⟨_, rfl⟩
  obtain ⟨x, hxx⟩ : ∃ x, x = decide (f / 2 % 2 = 1) := ⟨_, rfl⟩
  have GA : Hid (Got (S.run (symR l)) (⟨s, d, (o : Int), x⟩ : SymV) S3) := Lib.hid (by
    have e1 := Got.next (fun s p => thenR (uptoR l 0 3 p) fun f p => thenR (numR l p) fun (o : Nat) p => (.ok ((⟨s, decide (f % 2 = 1), (o : Int), decide (f / 2 % 2 = 1)⟩ : SymV), p) : Rd SymV)) G1.out
    have e2 := Got.next (fun f p => thenR (numR l p) fun (o : Nat) p => (.ok ((⟨s, decide (f % 2 = 1), (o : Int), decide (f / 2 % 2 = 1)⟩ : SymV), p) : Rd SymV)) G2.out
    have e3 := Got.next (fun (o : Nat) p => (.ok ((⟨s, decide (f % 2 = 1), (o : Int), decide (f / 2 % 2 = 1)⟩ : SymV), p) : Rd SymV)) G3.out
    have e4 : S.run (symR l) = _ := e1.trans (e2.trans e3)
    rw [e4, hd, hxx]
    exact Got.last _)
  have hfx : (f = 0 ∧ d = false ∧ x = false) ∨ (f = 1 ∧ d = true ∧ x = false) ∨ (f = 2 ∧ d = false ∧ x = true) ∨ (f = 3 ∧ d = true ∧ x = true) := by
    rcases (by omega : f = 0 ∨ f = 1 ∨ f = 2 ∨ f = 3) with rfl | rfl | rfl | rfl <;> simp [hd, hxx]
  have b01 : bits .and .u32 0 1 = 0 := by kernel_rfl
  have b02 : bits .and .u32 0 2 = 0 := by kernel_rfl
  have b11 : bits .and .u32 1 1 = 1 := by kernel_rfl
  have b12 : bits .and .u32 1 2 = 0 := by kernel_rfl
  have b21 : bits .and .u32 2 1 = 0 := by kernel_rfl
  have b22 : bits .and .u32 2 2 = 2 := by kernel_rfl
  have b31 : bits .and .u32 3 1 = 1 := by kernel_rfl
  have b32 : bits .and .u32 3 2 = 2 := by kernel_rfl
  clear hst hgot hk C3 ho hd hxx
  have KW := Lib.hid ((KA.out.but (fun z => z = r)).trans KB3.out)
  rcases hfx with ⟨rfl, rfl, rfl⟩ | ⟨rfl, rfl, rfl⟩ | ⟨rfl, rfl, rfl⟩ | ⟨rfl, rfl, rfl⟩
  all_goals (
    go_wp2_with fail
    refine bodyPost_ret (v := .agg #[.string s, .bool _, .int .u32 (o : Int), .bool _]) ?_ rfl ⟨_, _, S3, rfl, ⟨rfl, ⟨Int.natCast_nonneg _, by have := HO.out; show (o : Int) < _; omega⟩, HS.out⟩, ?_, GA.out, ?_⟩
    · simp [results, Tryd.results45, go_sem, r0]; done
    · exact RdSt.set4 ST.out R3.out (by decide) _ _ _ _
    · repeat (with_reducible refine KeepBut.setAt ?_ ?_ _; · exact .inr (Nat.le_refl _))
      exact KW.out)
end Go.Proofs.YtahnbeoacdnhjaaDoor

/- The program's relocation, as it is read. -/
namespace Go.Proofs.YtahnbeoacdnhjaaDoor
set_option linter.unusedVariables false
set_option linter.unusedSimpArgs false
open Go Go.RowKit
/-- What relocation answers. -/
def RelRV (_w : World) (x : RelV) (v : Value) : Prop := v = relVal x.kind x.off x.comp x.name x.perm ∧ (0 ≤ x.kind ∧ x.kind ≤ 3) ∧ (0 ≤ x.off ∧ x.off < 4294967296) ∧ (0 ≤ x.perm ∧ x.perm < 65536) ∧ x.comp.size ≤ 255 ∧ x.name.size ≤ 255
set_option maxHeartbeats 4000000 in
set_option maxRecDepth 100000 in
theorem prelR_any (w0 : World) (r : Nat) (vb : Value) (l : List Nat) (hx : RCtx w0 r vb l) (S : RSt) (w : World) (h : RdSt w r vb l S) (k0 : Keep w0 w) :
    Calls Tryd.prog 46 #[.pointer (some ⟨r, 0, none⟩)] w (RdPost r vb l (S.run (relR l)) RelRV w) := by
  obtain ⟨W0, hW0⟩ : ∃ W0, W0 = w.alloc (.cells #[.int .i64 0, .int .u32 0, .string ⟨#[]⟩, .string ⟨#[]⟩, .int .u16 0] 49) := ⟨_, rfl⟩
  have KA : Hid (Keep w W0) := Lib.hid (by rw [hW0]; exact (Keep.refl _).alloc _)
  have R0 : Hid (Box W0 w.heap.size #[.int .i64 0, .int .u32 0, .string ⟨#[]⟩, .string ⟨#[]⟩, .int .u16 0]) := Lib.hid (by rw [hW0]; exact Box.new _ _ _)
  have NR := Lib.hid (show w.heap.size ≠ r from fun e => by have := h.lt; omega)
  have HX := Lib.hid hx
  have K0 := Lib.hid (k0.trans KA.out)
  have C1 := Lib.hid (pwithin_any w0 r vb l hx S 1 1 3 11 (.inl rfl) (by decide) (by decide) (by decide) W0 (h.keep KA.out) K0.out)
  rw [withR_upto] at C1
  clear hx h k0
  go_enter Tryd.func46, Tryd.ntmps46
  go_wp2_with fail
  rw [← hW0]
  clear hW0
  refine C1.out.mono ?_
  rintro e w1 ⟨v, k, S1, rfl, ⟨rfl, hkk⟩, hst, hgot, hk⟩
  have G1 := Lib.hid hgot
  have KB1 := Lib.hid hk
  have C2 := Lib.hid (pnumber_any w0 r vb l HX.out S1 4 (.inr rfl) w1 hst (K0.out.butNew KB1.out (fun x hx => by rw [hx]; exact HX.out.new)))
  rw [numRN_four] at C2
  clear hst hgot hk C1
  go_wp2_with fail
  refine C2.out.mono ?_
  rintro e w2 ⟨v, o, S2, rfl, ⟨rfl, ho, _⟩, hst, hgot, hk⟩
  have G2 := Lib.hid hgot
  have KB2 := Lib.hid (KB1.out.trans hk)
  have C3 := Lib.hid (ptextR_any w0 r vb l HX.out S2 w2 hst (K0.out.butNew KB2.out (fun x hx => by rw [hx]; exact HX.out.new)))
  clear hst hgot hk C2
  go_wp2_with fail
  refine C3.out.mono ?_
  rintro e w3 ⟨v, c, S3, rfl, ⟨rfl, hcs⟩, hst, hgot, hk⟩
  have G3 := Lib.hid hgot
  have KB3 := Lib.hid (KB2.out.trans hk)
  have C4 := Lib.hid (ptextR_any w0 r vb l HX.out S3 w3 hst (K0.out.butNew KB3.out (fun x hx => by rw [hx]; exact HX.out.new)))
  clear hst hgot hk C3
  go_wp2_with fail
  refine C4.out.mono ?_
  rintro e w4 ⟨v, n, S4, rfl, ⟨rfl, hns⟩, hst, hgot, hk⟩
  have G4 := Lib.hid hgot
  have KB4 := Lib.hid (KB3.out.trans hk)
  have C5 := Lib.hid (pwithin_any w0 r vb l HX.out S4 4 0 65535 11 (.inr rfl) (by decide) (by decide) (by decide) w4 hst (K0.out.butNew KB4.out (fun x hx => by rw [hx]; exact HX.out.new)))
  rw [withR_most] at C5
  clear hst hgot hk C4
  go_wp2_with fail
  refine C5.out.mono ?_
  rintro e w5 ⟨v, m, S5, rfl, ⟨rfl, hm⟩, hst, hgot, hk⟩
  have G5 := Lib.hid hgot
  have KB5 := Lib.hid (KB4.out.trans hk)
  have ST := Lib.hid hst
  have R5 := Lib.hid (R0.out.but KB5.out NR.out)
  have r0 := R5.out.cells
  have rf := R5.out.thawed
  have GA : Hid (Got (S.run (relR l)) (⟨(k : Int), (o : Int), c, n, (m : Int)⟩ : RelV) S5) := Lib.hid (by
    have e1 := Got.next (fun (k : Nat) p => thenR (numR l p) fun (o : Nat) p => thenR (strR l p) fun c p => thenR (strR l p) fun n p => thenR (mostR l 65535 11 p) fun (m : Nat) p => (.ok ((⟨(k : Int), (o : Int), c, n, (m : Int)⟩ : RelV), p) : Rd RelV)) G1.out
    have e2 := Got.next (fun (o : Nat) p => thenR (strR l p) fun c p => thenR (strR l p) fun n p => thenR (mostR l 65535 11 p) fun (m : Nat) p => (.ok ((⟨(k : Int), (o : Int), c, n, (m : Int)⟩ : RelV), p) : Rd RelV)) G2.out
    have e3 := Got.next (fun c p => thenR (strR l p) fun n p => thenR (mostR l 65535 11 p) fun (m : Nat) p => (.ok ((⟨(k : Int), (o : Int), c, n, (m : Int)⟩ : RelV), p) : Rd RelV)) G3.out
    have e4 := Got.next (fun n p => thenR (mostR l 65535 11 p) fun (m : Nat) p => (.ok ((⟨(k : Int), (o : Int), c, n, (m : Int)⟩ : RelV), p) : Rd RelV)) G4.out
    have e5 := Got.next (fun (m : Nat) p => (.ok ((⟨(k : Int), (o : Int), c, n, (m : Int)⟩ : RelV), p) : Rd RelV)) G5.out
    have e6 : S.run (relR l) = _ := e1.trans (e2.trans (e3.trans (e4.trans e5)))
    rw [e6]
    exact Got.last _)
  have wk : IntKind.i64.wrap (k : Int) = (k : Int) := by rw [IntKind.wrap_i64]; omega
  have wm : IntKind.u16.wrap (m : Int) = (m : Int) := by rw [IntKind.wrap_u16]; omega
  have KW := Lib.hid ((KA.out.but (fun z => z = r)).trans KB5.out)
  have BND : Hid ((0 ≤ (k : Int) ∧ (k : Int) ≤ 3) ∧ (0 ≤ (o : Int) ∧ (o : Int) < 4294967296) ∧ (0 ≤ (m : Int) ∧ (m : Int) < 65536) ∧ c.size ≤ 255 ∧ n.size ≤ 255) := Lib.hid ⟨by omega, by omega, by omega, hcs, hns⟩
  clear hst hgot hk C5
  go_wp2_with fail
  refine bodyPost_ret (v := relVal (k : Int) (o : Int) c n (m : Int)) ?_ rfl ⟨_, _, S5, rfl, ⟨rfl, BND.out⟩, ?_, GA.out, ?_⟩
  · simp [results, Tryd.results46, go_sem, r0, relVal]; done
  · exact RdSt.set5 ST.out R5.out (by decide) _ _ _ _ _
  · repeat (with_reducible refine KeepBut.setAt ?_ ?_ _; · exact .inr (Nat.le_refl _))
    exact KW.out
end Go.Proofs.YtahnbeoacdnhjaaDoor

/- The program's read: what lies where while it goes on. -/
namespace Go.Proofs.YtahnbeoacdnhjaaDoor
set_option linter.unusedVariables false
set_option linter.unusedSimpArgs false
open Go Go.RowKit
theorem infoPSym : (Tryd.prog.info? 47).map (fun i => (i.zero, i.size, i.bytes)) = some (some (.agg #[.string ⟨#[]⟩, .bool false, .int .u32 0, .bool false]), 4, 32) := by kernel_rfl
theorem infoPRel : (Tryd.prog.info? 49).map (fun i => (i.zero, i.size, i.bytes)) = some (some (.agg #[.int .i64 0, .int .u32 0, .string ⟨#[]⟩, .string ⟨#[]⟩, .int .u16 0]), 5, 56) := by kernel_rfl
def zeroO : Array Value := #[.string ⟨#[]⟩, .slice none 0 0, .slice none 0 0, .slice none 0 0, .slice none 0 0]
/-- What stays while the symbols and relocations are read. -/
structure RFix where
  w : World
  r : Nat
  x : Nat
  vb : Value
  l : List Nat
  nm : ByteArray
  code : List Nat
  data : List Nat
  vc : Value
  vd : Value
structure ReadAt (F : RFix) (sB rB vs vr : Value) (os : List SymV) (rs : List RelV) (S : RSt) (W : World) : Prop where
  keep : Keep F.w W
  res : Box W F.w.heap.size zeroO
  rd : RdSt W F.r F.vb F.l S
  box : Box W F.x #[.string F.nm, F.vc, F.vd, sB, rB]
  code : Own8 W (F.r + 1) F.vc F.code
  data : Own8 W (F.r + 1) F.vd F.data
  codeLt : ∀ g, F.vc.ownBlock = some g → g < F.x
  dataLt : ∀ g, F.vd.ownBlock = some g → g < F.x
  syms : W.ownsRow (F.x + 1) 47 4 vs os.length (symRows os)
  rels : W.ownsRow (F.x + 1) 49 5 vr rs.length (relRows rs)
  sr : ∀ g, vs.ownBlock = some g → vr.ownBlock ≠ some g
  rw_ : F.w.heap.size < F.r
  rx : F.r < F.x
section
variable {F : RFix} {sB rB vs vr : Value} {os : List SymV} {rs : List RelV} {S : RSt} {W W' : World}
theorem ReadAt.keep' (h : ReadAt F sB rB vs vr os rs S W) (k : Keep W W') : ReadAt F sB rB vs vr os rs S W' :=
  { h with
    keep := h.keep.trans k
    res := h.res.keep k
    rd := h.rd.keep k
    box := h.box.keep k
    code := owns_keep h.code k
    data := owns_keep h.data k
    syms := owns_keep h.syms k
    rels := owns_keep h.rels k }
theorem ReadAt.read (h : ReadAt F sB rB vs vr os rs S W) (k : KeepBut (fun z => z = F.r) W W') {S' : RSt} (st : RdSt W' F.r F.vb F.l S') : ReadAt F sB rB vs vr os rs S' W' :=
  { h with
    keep := h.keep.butNew k (fun x hx => by have := h.rw_; omega)
    res := h.res.but k (by have := h.rw_; omega)
    rd := st
    box := h.box.but k (by have := h.rx; omega)
    code := owns_but h.code k (fun g hg => by have := (h.code.lt g hg).1; omega)
    data := owns_but h.data k (fun g hg => by have := (h.data.lt g hg).1; omega)
    syms := owns_but h.syms k (fun g hg => by have := (World.ownsRow.lt h.syms g hg).1; have := h.rx; omega)
    rels := owns_but h.rels k (fun g hg => by have := (World.ownsRow.lt h.rels g hg).1; have := h.rx; omega) }
theorem RdSt.grown {w w' : World} {r : Nat} {vb : Value} {l : List Nat} {S : RSt} {row : Option Nat} (h : RdSt w r vb l S) (g : w.grownBy w' row) (hn : ∀ (b : Nat) (us : Array Value), Box w b us → us.size = 3 → row ≠ some b) : RdSt w' r vb l S := by
  cases S with
  | ok p => exact ⟨h.1, grown_box g h.2 (hn _ _ h.2 rfl).symm⟩
  | error e =>
    obtain ⟨q, p, h1, h2, h3, h4, h5⟩ := h
    exact ⟨q, p, h1, h2, h3, grown_box g h4 (hn _ _ h4 rfl).symm, grown_box g h5 (hn _ _ h5 rfl).symm⟩
theorem owns_grown' {w w' : World} {base : Nat} {e : TypeId} {size : Nat} {v : Value} {n : Nat} {xs : List Value} {row : Option Nat} (h : w.ownsRow base e size v n xs) (g : w.grownBy w' row) (hn : ∀ k, v.ownBlock = some k → row ≠ some k) : w'.ownsRow base e size v n xs :=
  owns_but h (grown_but g (fun z => row = some z) (fun _ hg => hg)) (fun k hk => hn k hk)
theorem own_no3 {w : World} {base : Nat} {e : TypeId} {size : Nat} {v : Value} {n : Nat} {xs : List Value} (h : w.ownsRow base e size v n xs) (h3 : ∀ c : Nat, c * size ≠ 3) (b : Nat) (us : Array Value) (hB : Box w b us) (hu : us.size = 3) : v.ownBlock ≠ some b := by
  intro e
  obtain ⟨_, ⟨rfl, _⟩ | ⟨g, cap, cur, rfl, _, hg, _, _, hc, _⟩⟩ := h
  · cases e
  · simp only [Value.ownBlock, Option.some.injEq] at e
    subst e
    obtain ⟨t, hB⟩ := hB
    rw [hg] at hB
    cases hB
    exact h3 cap (hc ▸ hu)
theorem ReadAt.pushS (h : ReadAt F sB rB vs vr os rs S W) {v' : Value} {s : SymV} (o : W'.ownsRow (F.x + 1) 47 4 v' (os.length + 1) (symRows os ++ symRow s)) (g : W.grownBy W' vs.ownBlock) (b : v'.ownBlock = vs.ownBlock ∨ ∃ k, v'.ownBlock = some k ∧ W.heap.size ≤ k) : ReadAt F sB rB v' vr (os ++ [s]) rs S W' := by
  have lo : ∀ k, vs.ownBlock = some k → F.x + 1 ≤ k := fun k hk => (World.ownsRow.lt h.syms k hk).1
  have ne : ∀ k, k ≤ F.x → vs.ownBlock ≠ some k := fun k hk e => by have := lo k e; omega
  have r1 := h.rw_
  have r2 := h.rx
  exact { h with
    keep := grow_keep0 h.keep g (fun k hk => by have := lo k hk; omega)
    res := grown_box g h.res (ne _ (by omega)).symm
    rd := h.rd.grown g (own_no3 h.syms (fun c => by omega))
    box := grown_box g h.box (ne _ (by omega)).symm
    code := owns_grown' h.code g (fun k hk => ne k (by have := h.codeLt k hk; omega))
    data := owns_grown' h.data g (fun k hk => ne k (by have := h.dataLt k hk; omega))
    syms := by simpa [symRows] using o
    rels := owns_grown' h.rels g (fun k hk e => h.sr k e hk)
    sr := fun k hk e => by
      rcases b with b | ⟨y, b, hy⟩
      · exact h.sr k (b ▸ hk) e
      · have := (World.ownsRow.lt h.rels k e).2
        rw [b] at hk
        cases hk
        omega }
theorem ReadAt.pushR (h : ReadAt F sB rB vs vr os rs S W) {v' : Value} {s : RelV} (o : W'.ownsRow (F.x + 1) 49 5 v' (rs.length + 1) (relRows rs ++ relRow s)) (g : W.grownBy W' vr.ownBlock) (b : v'.ownBlock = vr.ownBlock ∨ ∃ k, v'.ownBlock = some k ∧ W.heap.size ≤ k) : ReadAt F sB rB vs v' os (rs ++ [s]) S W' := by
  have lo : ∀ k, vr.ownBlock = some k → F.x + 1 ≤ k := fun k hk => (World.ownsRow.lt h.rels k hk).1
  have ne : ∀ k, k ≤ F.x → vr.ownBlock ≠ some k := fun k hk e => by have := lo k e; omega
  have r1 := h.rw_
  have r2 := h.rx
  exact { h with
    keep := grow_keep0 h.keep g (fun k hk => by have := lo k hk; omega)
    res := grown_box g h.res (ne _ (by omega)).symm
    rd := h.rd.grown g (own_no3 h.rels (fun c => by omega))
    box := grown_box g h.box (ne _ (by omega)).symm
    code := owns_grown' h.code g (fun k hk => ne k (by have := h.codeLt k hk; omega))
    data := owns_grown' h.data g (fun k hk => ne k (by have := h.dataLt k hk; omega))
    syms := owns_grown' h.syms g (fun k hk e => h.sr k hk e)
    rels := by simpa [relRows] using o
    sr := fun k hk e => by
      rcases b with b | ⟨y, b, hy⟩
      · exact h.sr k hk (b ▸ e)
      · have := (World.ownsRow.lt h.syms k hk).2
        rw [b] at e
        cases e
        omega }
theorem ReadAt.store (h : ReadAt F sB rB vs vr os rs S W) (i : Nat) (v sB' rB' : Value) (he : (#[.string F.nm, F.vc, F.vd, sB, rB] : Array Value).setIfInBounds i v = #[.string F.nm, F.vc, F.vd, sB', rB']) : ReadAt F sB' rB' vs vr os rs S (W.setCell ⟨F.x, i, none⟩ v) := by
  have r1 := h.rw_
  have r2 := h.rx
  have k : KeepBut (fun z => z = F.x) W (W.setCell ⟨F.x, i, none⟩ v) := KeepBut.setAt (S := fun z => z = F.x) (.inl rfl) (KeepBut.refl _ _) v
  exact { h with
    keep := h.keep.butNew k (fun y hy => by omega)
    res := h.res.but k (by omega)
    rd := h.rd.set h.box (by simp) i v
    box := by have := h.box.set i v; rw [he] at this; exact this
    code := owns_but h.code k (fun g hg => by have := h.codeLt g hg; omega)
    data := owns_but h.data k (fun g hg => by have := h.dataLt g hg; omega)
    syms := owns_but h.syms k (fun g hg => by have := (World.ownsRow.lt h.syms g hg).1; omega)
    rels := owns_but h.rels k (fun g hg => by have := (World.ownsRow.lt h.rels g hg).1; omega) }
theorem own_slAt {w : World} {base : Nat} {e : TypeId} {size : Nat} {v : Value} {n : Nat} {xs : List Value} (h : w.ownsRow base e size v n xs) (hm : n ≤ maxLen) : SlAt w v n xs := by
  obtain ⟨p, cap, rfl, h1, h2, h3⟩ := owns_cells h hm
  refine ⟨p, cap, rfl, h1, h2, ?_⟩
  rcases h3 with h3 | ⟨b, rfl, _, hb, hc⟩
  · exact .inl h3
  · exact .inr ⟨b, 0, rfl, hb, hc⟩
theorem ReadAt.obj (h : ReadAt F sB rB vs vr os rs S W) (h1 : F.code.length ≤ 16384) (h2 : F.data.length ≤ 16384) (h3 : os.length ≤ 256) (h4 : rs.length ≤ 256) : ObjAt W ⟨F.nm, F.code, F.data, os, rs⟩ F.vc F.vd vs vr :=
  ⟨own_slAt h.code (show F.code.length ≤ maxLen by unfold maxLen; omega), own_slAt h.data (show F.data.length ≤ maxLen by unfold maxLen; omega), own_slAt h.syms (show os.length ≤ maxLen by unfold maxLen; omega), own_slAt h.rels (show rs.length ≤ maxLen by unfold maxLen; omega)⟩
theorem RdSt.butBox {w w' : World} {r : Nat} {vb : Value} {l : List Nat} {S : RSt} (h : RdSt w r vb l S) {g : Nat} {vs : Array Value} (hB : Box w g vs) (hs : vs.size ≠ 3) (k : KeepBut (fun z => z = g) w w') : RdSt w' r vb l S := by
  have ne : ∀ {b : Nat} {us : Array Value}, Box w b us → us.size = 3 → ¬ b = g := fun hb hu e => by
    subst e
    obtain ⟨t1, h1⟩ := hB
    obtain ⟨t2, h2⟩ := hb
    rw [h1] at h2
    cases h2
    exact hs hu
  cases S with
  | ok p => exact ⟨h.1, h.2.but k (ne h.2 rfl)⟩
  | error e =>
    obtain ⟨q, p, h1, h2, h3, h4, h5⟩ := h
    exact ⟨q, p, h1, h2, h3, h4.but k (ne h4 rfl), h5.but k (ne h5 rfl)⟩
theorem ReadAt.objBut (h : ReadAt F sB rB vs vr os rs S W) (k : KeepBut (fun z => z = F.w.heap.size) W W') (h1 : F.code.length ≤ 16384) (h2 : F.data.length ≤ 16384) (h3 : os.length ≤ 256) (h4 : rs.length ≤ 256) : ObjAt W' ⟨F.nm, F.code, F.data, os, rs⟩ F.vc F.vd vs vr := by
  have r1 := h.rw_
  have r2 := h.rx
  exact ⟨own_slAt (owns_but h.code k (fun g hg => by have := (h.code.lt g hg).1; omega)) (show F.code.length ≤ maxLen by unfold maxLen; omega),
    own_slAt (owns_but h.data k (fun g hg => by have := (h.data.lt g hg).1; omega)) (show F.data.length ≤ maxLen by unfold maxLen; omega),
    own_slAt (owns_but h.syms k (fun g hg => by have := (World.ownsRow.lt h.syms g hg).1; omega)) (show os.length ≤ maxLen by unfold maxLen; omega),
    own_slAt (owns_but h.rels k (fun g hg => by have := (World.ownsRow.lt h.rels g hg).1; omega)) (show rs.length ≤ maxLen by unfold maxLen; omega)⟩
end
end Go.Proofs.YtahnbeoacdnhjaaDoor

/- The program's read: an object out of its bytes. -/
namespace Go.Proofs.YtahnbeoacdnhjaaDoor
set_option linter.unusedVariables false
set_option linter.unusedSimpArgs false
open Go Go.RowKit
/-- What read answers. -/
def ReadR (l : List Nat) (w : World) (e : Ending) (w' : World) : Prop := ∃ (o : ObjV) (vc vd vs vr u : Value), e = .returned (.tuple #[objVal o vc vd vs vr, u]) ∧ Keep w w' ∧ ObjAt w' o vc vd vs vr ∧ ObjNum o ∧ ObjMid o ∧ match readR l with
  | .ok (y, _) => o = y ∧ u = .nilIface
  | .error (a, c) => c ≠ 0 ∧ OErr w' u (byteT, a, c)
theorem wrap_u32n (n : Nat) (h : n ≤ 4294967295) : IntKind.u32.wrap (n : Int) = (n : Int) := by rw [IntKind.wrap_u32]; omega
set_option maxHeartbeats 8000000 in
set_option maxRecDepth 100000 in
theorem pread_any (vb : Value) (l : List Nat) (w : World) (hl : SlAt w vb l.length (l.map byteV)) (hb : ∀ x ∈ l, x < 256) (few : l.length ≤ 100000) : Calls Tryd.prog 24 #[vb] w (ReadR l w) := by
  obtain ⟨i1, hi1, hy0, hy1, hy2⟩ := oinfo_parts infoPSym
  obtain ⟨i2, hi2, hq0, hq1, hq2⟩ := oinfo_parts infoPRel
  obtain ⟨W1, hW1⟩ : ∃ W1, W1 = (w.alloc (.cells zeroO 26)).alloc (.cells #[vb, .int .i64 0, .nilIface] 83) := ⟨_, rfl⟩
  have K1 : Hid (Keep w W1) := Lib.hid (by rw [hW1]; exact ((Keep.refl _).alloc _).alloc _)
  have B1 : Hid (Box W1 w.heap.size zeroO) := Lib.hid (by rw [hW1]; exact (Box.new _ _ _).alloc _)
  have R1 : Hid (RdSt W1 (w.heap.size + 1) vb l (.ok 0)) := Lib.hid ⟨Nat.zero_le _, by rw [hW1]; exact Box.new1 _ _ _ _⟩
  obtain ⟨r, hr⟩ : ∃ r, r = w.heap.size + 1 := ⟨_, rfl⟩
  have HX : Hid (RCtx w r vb l) := Lib.hid ⟨hl, by omega, hb, few⟩
  have RW := Lib.hid (show w.heap.size < r by omega)
  obtain ⟨vp, vc0, rfl, _, _, _⟩ := hl
  clear hb few
  unfold zeroO at hW1
  go_enter Tryd.func24, Tryd.ntmps24
  go_wp2_with fail
  rw [← hW1]
  rw [← hr] at R1 ⊢
  clear hW1 hr
  refine (pbegin_any w r _ l HX.out (.ok 0) W1 R1.out K1.out).mono ?_
  rintro e w2 ⟨S2, rfl, hst, hgot, hk⟩
  have G2 := Lib.hid hgot
  have KB2 := Lib.hid hk
  have C3 := Lib.hid (ptextR_any w r _ l HX.out S2 w2 hst (K1.out.butNew KB2.out (fun x hx => by have := RW.out; omega)))
  clear hst hgot hk
  go_wp2_with fail
  refine C3.out.mono ?_
  rintro e w3 ⟨v, nm, S3, rfl, ⟨rfl, hnm⟩, hst, hgot, hk⟩
  have G3 := Lib.hid hgot
  have HNM := Lib.hid hnm
  have KB3 := Lib.hid (KB2.out.trans hk)
  have C4 := Lib.hid (psecR_any w r _ l HX.out S3 w3 hst (K1.out.butNew KB3.out (fun x hx => by have := RW.out; omega)))
  clear hst hgot hk hnm C3
  go_wp2_with fail
  refine C4.out.mono ?_
  rintro e w4 ⟨vc, code, S4, rfl, hsc, hst, hgot, hk⟩
  have G4 := Lib.hid hgot
  have HC4 := Lib.hid hsc
  have KB4 := Lib.hid (KB3.out.trans hk)
  have C5 := Lib.hid (psecR_any w r _ l HX.out S4 w4 hst (K1.out.butNew KB4.out (fun x hx => by have := RW.out; omega)))
  clear hst hgot hk hsc C4
  go_wp2_with fail
  refine C5.out.mono ?_
  rintro e w5 ⟨vd, data, S5, rfl, hsd, hst, hgot, hk⟩
  have G5 := Lib.hid hgot
  have HC5 : Hid (Own8 w5 (r + 1) vc code ∧ code.length ≤ 16384 ∧ ∀ x ∈ code, x < 256) := Lib.hid ⟨owns_but HC4.out.1 hk (fun g hg => by have := (HC4.out.1.lt g hg).1; omega), HC4.out.2⟩
  have HD5 : Hid (Own8 w5 (r + 1) vd data ∧ data.length ≤ 16384 ∧ ∀ x ∈ data, x < 256) := Lib.hid hsd
  have KB5 := Lib.hid (KB4.out.trans hk)
  have ST5 := Lib.hid hst
  obtain ⟨pc4, cc4, hvc, _, _, _⟩ := owns_cells HC5.out.1 (by have := HC5.out.2.1; unfold maxLen; omega)
  obtain ⟨pd4, cd4, hvd, _, _, _⟩ := owns_cells HD5.out.1 (by have := HD5.out.2.1; unfold maxLen; omega)
  subst hvc hvd
  clear hst hgot hk hsd C5 HC4
  obtain ⟨W6, hW6⟩ : ∃ W6, W6 = w5.alloc (.cells #[.string nm, .slice pc4 code.length cc4, .slice pd4 data.length cd4, .slice none 0 0, .slice none 0 0] 26) := ⟨_, rfl⟩
  obtain ⟨x, hx⟩ : ∃ x, x = w5.heap.size := ⟨_, rfl⟩
  have KW5 : Hid (Keep w w5) := Lib.hid (K1.out.butNew KB5.out (fun x hx => by have := RW.out; omega))
  have P6 : Hid (ReadAt (⟨w, r, x, .slice vp l.length vc0, l, nm, code, data, .slice pc4 code.length cc4, .slice pd4 data.length cd4⟩ : RFix) (.slice none 0 0) (.slice none 0 0) (.slice none 0 0) (.slice none 0 0) [] [] S5 W6) := Lib.hid (by
    have ka : Keep w5 W6 := by rw [hW6]; exact (Keep.refl _).alloc _
    refine ⟨KW5.out.trans ka, (B1.out.but KB5.out (by have := RW.out; omega)).keep ka, ST5.out.keep ka, ?_, owns_keep HC5.out.1 ka, owns_keep HD5.out.1 ka, fun g hg => ?_, fun g hg => ?_, World.ownsRow_nil _ _ _ _, World.ownsRow_nil _ _ _ _, (fun g hg => nomatch hg), RW.out, ?_⟩
    · show Box W6 x _; rw [hW6, hx]; exact Box.new _ _ _
    · show g < x; rw [hx]; exact (HC5.out.1.lt g hg).2
    · show g < x; rw [hx]; exact (HD5.out.1.lt g hg).2
    · show r < x; rw [hx]; exact ST5.out.lt)
  go_wp2_with fail
  rw [← hW6]
  rw [← hx]
  clear hW6 hx
  have C6 := Lib.hid (pcount_any w r _ l HX.out S5 W6 P6.out.rd P6.out.keep)
  go_wp2_with fail
  refine C6.out.mono ?_
  rintro e w7 ⟨v, n, S7, rfl, ⟨rfl, hn⟩, hst, hgot, hk⟩
  have G7 := Lib.hid hgot
  have P7 := Lib.hid (P6.out.read hk hst)
  have HN := Lib.hid hn
  clear hst hgot hk C6 P6
  go_wp2_with fail
  go_loopw [20] (fun i wr => ∃ (os : List SymV) (S : RSt) (vs : Value), os.length ≤ n ∧ i = .int .u32 (os.length : Int) ∧ ReadAt (⟨w, r, x, .slice vp l.length vc0, l, nm, code, data, .slice pc4 code.length cc4, .slice pd4 data.length cd4⟩ : RFix) vs (.slice none 0 0) vs (.slice none 0 0) os [] S wr ∧ ManyAt (S7.run (manyR (symR l) n)) (symR l) n os S ∧ ∀ s ∈ os, SymOk s ∧ s.name.size ≤ 255) (fun i _ => n - (intOf i).toNat)
  case atStart => exact ⟨[], S7, _, Nat.zero_le _, rfl, P7.out, ManyAt.start, fun s hs => nomatch hs⟩
  case round =>
    obtain ⟨os, S, vs, hos, rfl, hP, hM, hO⟩ := hrel
    have P := Lib.hid hP
    have MA := Lib.hid hM
    have OS := Lib.hid hO
    clear hP hM hO P7
    by_cases hlt : os.length < n
    · have hd : decide ((os.length : Int) < (n : Int)) = true := decide_eq_true (by omega)
      have hd2 : (os.length : Int) < (n : Int) := by omega
      have NB := Lib.hid (show os.length + 1 ≤ 256 by omega)
      have HLT := Lib.hid hlt
      have wq : IntKind.u32.wrap ((os.length : Int) + 1) = (os.length : Int) + 1 := wrap_u32n (os.length + 1) (by omega)
      clear hlt
      go_wp2_with fail
      refine Rel.regionP (KeepBut (fun z => z = r ∨ x ≤ z)) (butWay _) [] [0, 2] 6 (by kernel_rfl) (by kernel_rfl) (Keep.refl _) ?_
      repeat (apply Rel.pre_step (by rfl) (by rfl) (by rfl)
              · intro W' hW'
                go_simp
                exact ⟨rfl, Keep.refl _⟩
              go_simp)
      apply Rel.pre_end
      refine Rel.every_two 1 3 (by kernel_rfl) (by rfl) (by rfl) (by rfl) (by rfl) ?_ ?_
      · intro W1 h1
        have PP := Lib.hid (P.out.keep' h1)
        skip
        have BX : Box W1 x #[.string nm, .slice pc4 code.length cc4, .slice pd4 data.length cd4, vs, .slice none 0 0] := PP.out.box
        have cx := BX.cells
        go_simp
        apply Rel.gives_value
        refine ⟨KeepBut.refl _ _, ?_⟩
        clear h1 cx BX P
        have P := PP
        clear PP
        go_simp
        apply Rel.every_one 3 (by kernel_rfl) (by rfl) (by rfl)
        intro W2 h2
        have P2 := Lib.hid (P.out.keep' h2)
        go_simp
        apply Rel.gives_enter
        go_at_call 45
        refine (psymR_any w r _ l HX.out S W2 P2.out.rd P2.out.keep).mono ?_
        rintro e w8 ⟨v, s, S', rfl, ⟨rfl, hs1, hs2⟩, hst, hgot, hk⟩
        refine ⟨_, rfl, hk.mono (fun _ _ h => .inl h), ?_⟩
        have PP := Lib.hid (P2.out.read hk hst)
        have GG := Lib.hid hgot
        have HS := Lib.hid (And.intro hs1 hs2)
        clear hk hst hgot h2 P2 P hs1 hs2
        have P := PP
        clear PP
        unfold symVal
        go_simp
        apply Rel.every_one 4 (by kernel_rfl) (by rfl) (by rfl)
        intro W4 h4
        go_simp
        apply Rel.gives_value
        refine ⟨((Keep.refl _).alloc _).but _, ?_⟩
        have PP := Lib.hid (P.out.keep' (h4.alloc (.cells #[.string s.name, .bool s.data, .int .u32 s.off, .bool s.exp] 47)))
        have BB := Lib.hid (Box.new W4 #[.string s.name, .bool s.data, .int .u32 s.off, .bool s.exp] 47)
        obtain ⟨gb, hgb⟩ : ∃ gb, gb = W4.heap.size := ⟨_, rfl⟩
        rw [← hgb] at BB ⊢
        obtain ⟨WB, hWB⟩ : ∃ WB, WB = W4.alloc (.cells #[.string s.name, .bool s.data, .int .u32 s.off, .bool s.exp] 47) := ⟨_, rfl⟩
        rw [← hWB] at PP BB ⊢
        clear hWB hgb h4 P
        have P := PP
        clear PP
        go_simp
        apply Rel.every_one 5 (by kernel_rfl) (by rfl) (by rfl)
        intro W6 h6
        have P6 := Lib.hid (P.out.keep' h6)
        have B6 := BB.out.keep h6
        refine gives_append_src W6 (.tmp 23) (.tmp 26) 23 23 rfl (x + 1) 47 i1 _ 4 32 Tryd.underlying23 hi1 hy0 hy1 hy2 rfl _ _ _ rfl P6.out.syms (.slice (some ⟨gb, 0, none⟩) 1 1) 1 (symRow s) rfl (Src.ofSlice W6 Tryd.underlying23 _ 1 1 _ rfl (fun j u hj => by rw [show (⟨gb, 0, none⟩ : Addr).add j = ⟨gb, j, none⟩ by unfold Addr.add; split <;> simp_all]; rw [B6.cells]; simpa [symRow] using hj) (fun u hu => by simp [symRow] at hu; rcases hu with rfl | rfl | rfl | rfl <;> rfl)) (by have := NB.out; unfold maxLen; omega) (by have := NB.out; omega) (by have := P6.out.box.lt; exact this) ?_
        intro v7 V7 o7 g7 b7
        refine ⟨grown_but g7 _ (fun g hg => .inr (by have := (World.ownsRow.lt P6.out.syms g hg).1; show x ≤ g; exact Nat.le_of_succ_le this)), ?_⟩
        have PP := Lib.hid (P6.out.pushS o7 g7 b7)
        have NV := Lib.hid (show os.length + 1 ≤ maxLen by have := NB.out; unfold maxLen; omega)
        obtain ⟨pv, cv, hv7, _, _, _⟩ := owns_cells o7 NV.out
        obtain ⟨nv, hnv⟩ : ∃ nv, nv = os.length + 1 := ⟨_, rfl⟩
        rw [← hnv] at hv7
        clear hnv
        subst hv7
        clear o7 g7 b7 h6 B6 P6 P BB
        have P := PP
        clear PP
        go_simp
        apply Rel.every_one 6 (by kernel_rfl) (by rfl) (by rfl)
        intro W8 h8
        go_simp
        apply Rel.gives_value
        refine ⟨KeepBut.refl _ _, ?_⟩
        have PP := Lib.hid (P.out.keep' h8)
        clear h8 P
        have P := PP
        clear PP
        go_simp
        apply Rel.every_one 7 (by kernel_rfl) (by rfl) (by rfl)
        intro W9 h9
        have P9 := Lib.hid (P.out.keep' h9)
        have BX : Box W9 x #[.string nm, .slice pc4 code.length cc4, .slice pd4 data.length cd4, vs, .slice none 0 0] := P9.out.box
        have cx := BX.cells
        have fx := BX.thawed
        go_simp
        apply Rel.gives_skip
        refine ⟨KeepBut.setAt (S := fun z => z = r ∨ x ≤ z) (.inl (.inr (Nat.le_refl _))) (KeepBut.refl _ _) _, ?_⟩
        have PP := Lib.hid (P9.out.store 3 (.slice pv nv cv) (.slice pv nv cv) (.slice none 0 0) rfl)
        clear h9 cx fx BX P9 P
        have P := PP
        clear PP
        go_simp
        refine Rel.every_end (by kernel_rfl) ?_
        intro WA hA
        have PP := Lib.hid (P.out.keep' hA)
        clear hA P
        have P := PP
        clear PP
        go_wp2_with fail
        go_roundw
        case rel => exact ⟨os ++ [s], S', _, by have := HLT.out; simp; omega, by simp, P.out, MA.out.more HLT.out GG.out, fun s2 hs2 => by
          rcases List.mem_append.1 hs2 with h | h
          · exact OS.out s2 h
          · rw [List.mem_singleton] at h; subst h; exact HS.out⟩
        case measure => have := HLT.out; simp [intOf]; omega
      · intro W2 h2
        have P2 := Lib.hid (P.out.keep' h2)
        go_simp
        apply Rel.gives_enter
        go_at_call 45
        refine (psymR_any w r _ l HX.out S W2 P2.out.rd P2.out.keep).mono ?_
        rintro e w8 ⟨v, s, S', rfl, ⟨rfl, hs1, hs2⟩, hst, hgot, hk⟩
        refine ⟨_, rfl, hk.mono (fun _ _ h => .inl h), ?_⟩
        have PP := Lib.hid (P2.out.read hk hst)
        have GG := Lib.hid hgot
        have HS := Lib.hid (And.intro hs1 hs2)
        clear hk hst hgot h2 P2 P hs1 hs2
        have P := PP
        clear PP
        unfold symVal
        go_simp
        refine Rel.every_two 1 4 (by kernel_rfl) (by rfl) (by rfl) (by rfl) (by rfl) ?_ ?_
        · intro W1 h1
          have PP := Lib.hid (P.out.keep' h1)
          skip
          have BX : Box W1 x #[.string nm, .slice pc4 code.length cc4, .slice pd4 data.length cd4, vs, .slice none 0 0] := PP.out.box
          have cx := BX.cells
          go_simp
          apply Rel.gives_value
          refine ⟨KeepBut.refl _ _, ?_⟩
          clear h1 cx BX P
          have P := PP
          clear PP
          go_simp
          apply Rel.every_one 4 (by kernel_rfl) (by rfl) (by rfl)
          intro W4 h4
          go_simp
          apply Rel.gives_value
          refine ⟨((Keep.refl _).alloc _).but _, ?_⟩
          have PP := Lib.hid (P.out.keep' (h4.alloc (.cells #[.string s.name, .bool s.data, .int .u32 s.off, .bool s.exp] 47)))
          have BB := Lib.hid (Box.new W4 #[.string s.name, .bool s.data, .int .u32 s.off, .bool s.exp] 47)
          obtain ⟨gb, hgb⟩ : ∃ gb, gb = W4.heap.size := ⟨_, rfl⟩
          rw [← hgb] at BB ⊢
          obtain ⟨WB, hWB⟩ : ∃ WB, WB = W4.alloc (.cells #[.string s.name, .bool s.data, .int .u32 s.off, .bool s.exp] 47) := ⟨_, rfl⟩
          rw [← hWB] at PP BB ⊢
          clear hWB hgb h4 P
          have P := PP
          clear PP
          go_simp
          apply Rel.every_one 5 (by kernel_rfl) (by rfl) (by rfl)
          intro W6 h6
          have P6 := Lib.hid (P.out.keep' h6)
          have B6 := BB.out.keep h6
          refine gives_append_src W6 (.tmp 23) (.tmp 26) 23 23 rfl (x + 1) 47 i1 _ 4 32 Tryd.underlying23 hi1 hy0 hy1 hy2 rfl _ _ _ rfl P6.out.syms (.slice (some ⟨gb, 0, none⟩) 1 1) 1 (symRow s) rfl (Src.ofSlice W6 Tryd.underlying23 _ 1 1 _ rfl (fun j u hj => by rw [show (⟨gb, 0, none⟩ : Addr).add j = ⟨gb, j, none⟩ by unfold Addr.add; split <;> simp_all]; rw [B6.cells]; simpa [symRow] using hj) (fun u hu => by simp [symRow] at hu; rcases hu with rfl | rfl | rfl | rfl <;> rfl)) (by have := NB.out; unfold maxLen; omega) (by have := NB.out; omega) (by have := P6.out.box.lt; exact this) ?_
          intro v7 V7 o7 g7 b7
          refine ⟨grown_but g7 _ (fun g hg => .inr (by have := (World.ownsRow.lt P6.out.syms g hg).1; show x ≤ g; exact Nat.le_of_succ_le this)), ?_⟩
          have PP := Lib.hid (P6.out.pushS o7 g7 b7)
          have NV := Lib.hid (show os.length + 1 ≤ maxLen by have := NB.out; unfold maxLen; omega)
          obtain ⟨pv, cv, hv7, _, _, _⟩ := owns_cells o7 NV.out
          obtain ⟨nv, hnv⟩ : ∃ nv, nv = os.length + 1 := ⟨_, rfl⟩
          rw [← hnv] at hv7
          clear hnv
          subst hv7
          clear o7 g7 b7 h6 B6 P6 P BB
          have P := PP
          clear PP
          go_simp
          apply Rel.every_one 6 (by kernel_rfl) (by rfl) (by rfl)
          intro W8 h8
          go_simp
          apply Rel.gives_value
          refine ⟨KeepBut.refl _ _, ?_⟩
          have PP := Lib.hid (P.out.keep' h8)
          clear h8 P
          have P := PP
          clear PP
          go_simp
          apply Rel.every_one 7 (by kernel_rfl) (by rfl) (by rfl)
          intro W9 h9
          have P9 := Lib.hid (P.out.keep' h9)
          have BX : Box W9 x #[.string nm, .slice pc4 code.length cc4, .slice pd4 data.length cd4, vs, .slice none 0 0] := P9.out.box
          have cx := BX.cells
          have fx := BX.thawed
          go_simp
          apply Rel.gives_skip
          refine ⟨KeepBut.setAt (S := fun z => z = r ∨ x ≤ z) (.inl (.inr (Nat.le_refl _))) (KeepBut.refl _ _) _, ?_⟩
          have PP := Lib.hid (P9.out.store 3 (.slice pv nv cv) (.slice pv nv cv) (.slice none 0 0) rfl)
          clear h9 cx fx BX P9 P
          have P := PP
          clear PP
          go_simp
          refine Rel.every_end (by kernel_rfl) ?_
          intro WA hA
          have PP := Lib.hid (P.out.keep' hA)
          clear hA P
          have P := PP
          clear PP
          go_wp2_with fail
          go_roundw
          case rel => exact ⟨os ++ [s], S', _, by have := HLT.out; simp; omega, by simp, P.out, MA.out.more HLT.out GG.out, fun s2 hs2 => by
            rcases List.mem_append.1 hs2 with h | h
            · exact OS.out s2 h
            · rw [List.mem_singleton] at h; subst h; exact HS.out⟩
          case measure => have := HLT.out; simp [intOf]; omega
        · intro W4 h4
          go_simp
          apply Rel.gives_value
          refine ⟨((Keep.refl _).alloc _).but _, ?_⟩
          have PP := Lib.hid (P.out.keep' (h4.alloc (.cells #[.string s.name, .bool s.data, .int .u32 s.off, .bool s.exp] 47)))
          have BB := Lib.hid (Box.new W4 #[.string s.name, .bool s.data, .int .u32 s.off, .bool s.exp] 47)
          obtain ⟨gb, hgb⟩ : ∃ gb, gb = W4.heap.size := ⟨_, rfl⟩
          rw [← hgb] at BB ⊢
          obtain ⟨WB, hWB⟩ : ∃ WB, WB = W4.alloc (.cells #[.string s.name, .bool s.data, .int .u32 s.off, .bool s.exp] 47) := ⟨_, rfl⟩
          rw [← hWB] at PP BB ⊢
          clear hWB hgb h4 P
          have P := PP
          clear PP
          go_simp
          apply Rel.every_one 1 (by kernel_rfl) (by rfl) (by rfl)
          intro W1 h1
          have PP := Lib.hid (P.out.keep' h1)
          have BB := Lib.hid (BB.out.keep h1)
          have BX : Box W1 x #[.string nm, .slice pc4 code.length cc4, .slice pd4 data.length cd4, vs, .slice none 0 0] := PP.out.box
          have cx := BX.cells
          go_simp
          apply Rel.gives_value
          refine ⟨KeepBut.refl _ _, ?_⟩
          clear h1 cx BX P
          have P := PP
          clear PP
          go_simp
          apply Rel.every_one 5 (by kernel_rfl) (by rfl) (by rfl)
          intro W6 h6
          have P6 := Lib.hid (P.out.keep' h6)
          have B6 := BB.out.keep h6
          refine gives_append_src W6 (.tmp 23) (.tmp 26) 23 23 rfl (x + 1) 47 i1 _ 4 32 Tryd.underlying23 hi1 hy0 hy1 hy2 rfl _ _ _ rfl P6.out.syms (.slice (some ⟨gb, 0, none⟩) 1 1) 1 (symRow s) rfl (Src.ofSlice W6 Tryd.underlying23 _ 1 1 _ rfl (fun j u hj => by rw [show (⟨gb, 0, none⟩ : Addr).add j = ⟨gb, j, none⟩ by unfold Addr.add; split <;> simp_all]; rw [B6.cells]; simpa [symRow] using hj) (fun u hu => by simp [symRow] at hu; rcases hu with rfl | rfl | rfl | rfl <;> rfl)) (by have := NB.out; unfold maxLen; omega) (by have := NB.out; omega) (by have := P6.out.box.lt; exact this) ?_
          intro v7 V7 o7 g7 b7
          refine ⟨grown_but g7 _ (fun g hg => .inr (by have := (World.ownsRow.lt P6.out.syms g hg).1; show x ≤ g; exact Nat.le_of_succ_le this)), ?_⟩
          have PP := Lib.hid (P6.out.pushS o7 g7 b7)
          have NV := Lib.hid (show os.length + 1 ≤ maxLen by have := NB.out; unfold maxLen; omega)
          obtain ⟨pv, cv, hv7, _, _, _⟩ := owns_cells o7 NV.out
          obtain ⟨nv, hnv⟩ : ∃ nv, nv = os.length + 1 := ⟨_, rfl⟩
          rw [← hnv] at hv7
          clear hnv
          subst hv7
          clear o7 g7 b7 h6 B6 P6 P BB
          have P := PP
          clear PP
          go_simp
          apply Rel.every_one 6 (by kernel_rfl) (by rfl) (by rfl)
          intro W8 h8
          go_simp
          apply Rel.gives_value
          refine ⟨KeepBut.refl _ _, ?_⟩
          have PP := Lib.hid (P.out.keep' h8)
          clear h8 P
          have P := PP
          clear PP
          go_simp
          apply Rel.every_one 7 (by kernel_rfl) (by rfl) (by rfl)
          intro W9 h9
          have P9 := Lib.hid (P.out.keep' h9)
          have BX : Box W9 x #[.string nm, .slice pc4 code.length cc4, .slice pd4 data.length cd4, vs, .slice none 0 0] := P9.out.box
          have cx := BX.cells
          have fx := BX.thawed
          go_simp
          apply Rel.gives_skip
          refine ⟨KeepBut.setAt (S := fun z => z = r ∨ x ≤ z) (.inl (.inr (Nat.le_refl _))) (KeepBut.refl _ _) _, ?_⟩
          have PP := Lib.hid (P9.out.store 3 (.slice pv nv cv) (.slice pv nv cv) (.slice none 0 0) rfl)
          clear h9 cx fx BX P9 P
          have P := PP
          clear PP
          go_simp
          refine Rel.every_end (by kernel_rfl) ?_
          intro WA hA
          have PP := Lib.hid (P.out.keep' hA)
          clear hA P
          have P := PP
          clear PP
          go_wp2_with fail
          go_roundw
          case rel => exact ⟨os ++ [s], S', _, by have := HLT.out; simp; omega, by simp, P.out, MA.out.more HLT.out GG.out, fun s2 hs2 => by
            rcases List.mem_append.1 hs2 with h | h
            · exact OS.out s2 h
            · rw [List.mem_singleton] at h; subst h; exact HS.out⟩
          case measure => have := HLT.out; simp [intOf]; omega
    · have HEQ := Lib.hid (show os.length = n by omega)
      have hd : decide ((os.length : Int) < (n : Int)) = false := decide_eq_false (by omega)
      have G8 := Lib.hid (MA.out.done HEQ.out)
      have HOS := Lib.hid (show os.length ≤ 256 by omega)
      have C9 := Lib.hid (pcount_any w r _ l HX.out S wr P.out.rd P.out.keep)
      clear HEQ hd MA hos
      go_wp2_with fail
      refine C9.out.mono ?_
      rintro e w9 ⟨v, n2, S9, rfl, ⟨rfl, hn2⟩, hst, hgot, hk⟩
      have G9 := Lib.hid hgot
      have P9 := Lib.hid (P.out.read hk hst)
      clear hst hgot hk C9 P
      go_wp2_with fail
      go_loopw [32] (fun i wr => ∃ (rs : List RelV) (S : RSt) (vr : Value), rs.length ≤ n2 ∧ i = .int .u32 (rs.length : Int) ∧ ReadAt (⟨w, r, x, .slice vp l.length vc0, l, nm, code, data, .slice pc4 code.length cc4, .slice pd4 data.length cd4⟩ : RFix) vs vr vs vr os rs S wr ∧ ManyAt (S9.run (manyR (relR l) n2)) (relR l) n2 rs S ∧ ∀ s ∈ rs, (0 ≤ s.kind ∧ s.kind ≤ 3) ∧ (0 ≤ s.off ∧ s.off < 4294967296) ∧ (0 ≤ s.perm ∧ s.perm < 65536) ∧ s.comp.size ≤ 255 ∧ s.name.size ≤ 255) (fun i _ => n2 - (intOf i).toNat)
      case atStart => exact ⟨[], S9, _, Nat.zero_le _, rfl, P9.out, ManyAt.start, fun s hs => nomatch hs⟩
      case round =>
        obtain ⟨rs, S2_, vr, hrs, rfl, hP, hM, hR⟩ := hrel
        have P := Lib.hid hP
        have MR := Lib.hid hM
        have RS := Lib.hid hR
        clear hP hM hR P9
        by_cases hlt : rs.length < n2
        · have hd : decide ((rs.length : Int) < (n2 : Int)) = true := decide_eq_true (by omega)
          have hd2 : (rs.length : Int) < (n2 : Int) := by omega
          have NB := Lib.hid (show rs.length + 1 ≤ 256 by omega)
          have HLT := Lib.hid hlt
          have wq : IntKind.u32.wrap ((rs.length : Int) + 1) = (rs.length : Int) + 1 := wrap_u32n (rs.length + 1) (by omega)
          clear hlt
          go_wp2_with fail
          refine Rel.regionP (KeepBut (fun z => z = r ∨ x ≤ z)) (butWay _) [] [0, 2] 6 (by kernel_rfl) (by kernel_rfl) (Keep.refl _) ?_
          repeat (apply Rel.pre_step (by rfl) (by rfl) (by rfl)
                  · intro W' hW'
                    go_simp
                    exact ⟨rfl, Keep.refl _⟩
                  go_simp)
          apply Rel.pre_end
          refine Rel.every_two 1 3 (by kernel_rfl) (by rfl) (by rfl) (by rfl) (by rfl) ?_ ?_
          · intro W1 h1
            have PP := Lib.hid (P.out.keep' h1)
            skip
            have BX : Box W1 x #[.string nm, .slice pc4 code.length cc4, .slice pd4 data.length cd4, vs, vr] := PP.out.box
            have cx := BX.cells
            go_simp
            apply Rel.gives_value
            refine ⟨KeepBut.refl _ _, ?_⟩
            clear h1 cx BX P
            have P := PP
            clear PP
            go_simp
            apply Rel.every_one 3 (by kernel_rfl) (by rfl) (by rfl)
            intro W2 h2
            have P2 := Lib.hid (P.out.keep' h2)
            go_simp
            apply Rel.gives_enter
            go_at_call 46
            refine (prelR_any w r _ l HX.out S2_ W2 P2.out.rd P2.out.keep).mono ?_
            rintro e w8 ⟨v, s, S', rfl, ⟨rfl, hs1⟩, hst, hgot, hk⟩
            refine ⟨_, rfl, hk.mono (fun _ _ h => .inl h), ?_⟩
            have PP := Lib.hid (P2.out.read hk hst)
            have GG := Lib.hid hgot
            have HS := Lib.hid hs1
            clear hk hst hgot h2 P2 P hs1
            have P := PP
            clear PP
            unfold relVal
            go_simp
            apply Rel.every_one 4 (by kernel_rfl) (by rfl) (by rfl)
            intro W4 h4
            go_simp
            apply Rel.gives_value
            refine ⟨((Keep.refl _).alloc _).but _, ?_⟩
            have PP := Lib.hid (P.out.keep' (h4.alloc (.cells #[.int .i64 s.kind, .int .u32 s.off, .string s.comp, .string s.name, .int .u16 s.perm] 49)))
            have BB := Lib.hid (Box.new W4 #[.int .i64 s.kind, .int .u32 s.off, .string s.comp, .string s.name, .int .u16 s.perm] 49)
            obtain ⟨gb, hgb⟩ : ∃ gb, gb = W4.heap.size := ⟨_, rfl⟩
            rw [← hgb] at BB ⊢
            obtain ⟨WB, hWB⟩ : ∃ WB, WB = W4.alloc (.cells #[.int .i64 s.kind, .int .u32 s.off, .string s.comp, .string s.name, .int .u16 s.perm] 49) := ⟨_, rfl⟩
            rw [← hWB] at PP BB ⊢
            clear hWB hgb h4 P
            have P := PP
            clear PP
            go_simp
            apply Rel.every_one 5 (by kernel_rfl) (by rfl) (by rfl)
            intro W6 h6
            have P6 := Lib.hid (P.out.keep' h6)
            have B6 := BB.out.keep h6
            refine gives_append_src W6 (.tmp 35) (.tmp 38) 24 24 rfl (x + 1) 49 i2 _ 5 56 Tryd.underlying24 hi2 hq0 hq1 hq2 rfl _ _ _ rfl P6.out.rels (.slice (some ⟨gb, 0, none⟩) 1 1) 1 (relRow s) rfl (Src.ofSlice W6 Tryd.underlying24 _ 1 1 _ rfl (fun j u hj => by rw [show (⟨gb, 0, none⟩ : Addr).add j = ⟨gb, j, none⟩ by unfold Addr.add; split <;> simp_all]; rw [B6.cells]; simpa [relRow] using hj) (fun u hu => by simp [relRow] at hu; rcases hu with rfl | rfl | rfl | rfl | rfl <;> rfl)) (by have := NB.out; unfold maxLen; omega) (by have := NB.out; omega) (by have := P6.out.box.lt; exact this) ?_
            intro v7 V7 o7 g7 b7
            refine ⟨grown_but g7 _ (fun g hg => .inr (by have := (World.ownsRow.lt P6.out.rels g hg).1; show x ≤ g; exact Nat.le_of_succ_le this)), ?_⟩
            have PP := Lib.hid (P6.out.pushR o7 g7 b7)
            have NV := Lib.hid (show rs.length + 1 ≤ maxLen by have := NB.out; unfold maxLen; omega)
            obtain ⟨pv, cv, hv7, _, _, _⟩ := owns_cells o7 NV.out
            obtain ⟨nv, hnv⟩ : ∃ nv, nv = rs.length + 1 := ⟨_, rfl⟩
            rw [← hnv] at hv7
            clear hnv
            subst hv7
            clear o7 g7 b7 h6 B6 P6 P BB
            have P := PP
            clear PP
            go_simp
            apply Rel.every_one 6 (by kernel_rfl) (by rfl) (by rfl)
            intro W8 h8
            go_simp
            apply Rel.gives_value
            refine ⟨KeepBut.refl _ _, ?_⟩
            have PP := Lib.hid (P.out.keep' h8)
            clear h8 P
            have P := PP
            clear PP
            go_simp
            apply Rel.every_one 7 (by kernel_rfl) (by rfl) (by rfl)
            intro W9 h9
            have P9 := Lib.hid (P.out.keep' h9)
            have BX : Box W9 x #[.string nm, .slice pc4 code.length cc4, .slice pd4 data.length cd4, vs, vr] := P9.out.box
            have cx := BX.cells
            have fx := BX.thawed
            go_simp
            apply Rel.gives_skip
            refine ⟨KeepBut.setAt (S := fun z => z = r ∨ x ≤ z) (.inl (.inr (Nat.le_refl _))) (KeepBut.refl _ _) _, ?_⟩
            have PP := Lib.hid (P9.out.store 4 (.slice pv nv cv) vs (.slice pv nv cv) rfl)
            clear h9 cx fx BX P9 P
            have P := PP
            clear PP
            go_simp
            refine Rel.every_end (by kernel_rfl) ?_
            intro WA hA
            have PP := Lib.hid (P.out.keep' hA)
            clear hA P
            have P := PP
            clear PP
            go_wp2_with fail
            go_roundw
            case rel => exact ⟨rs ++ [s], S', _, by have := HLT.out; simp; omega, by simp, P.out, MR.out.more HLT.out GG.out, fun s2 hs2 => by
              rcases List.mem_append.1 hs2 with h | h
              · exact RS.out s2 h
              · rw [List.mem_singleton] at h; subst h; exact HS.out⟩
            case measure => have := HLT.out; simp [intOf]; omega
          · intro W2 h2
            have P2 := Lib.hid (P.out.keep' h2)
            go_simp
            apply Rel.gives_enter
            go_at_call 46
            refine (prelR_any w r _ l HX.out S2_ W2 P2.out.rd P2.out.keep).mono ?_
            rintro e w8 ⟨v, s, S', rfl, ⟨rfl, hs1⟩, hst, hgot, hk⟩
            refine ⟨_, rfl, hk.mono (fun _ _ h => .inl h), ?_⟩
            have PP := Lib.hid (P2.out.read hk hst)
            have GG := Lib.hid hgot
            have HS := Lib.hid hs1
            clear hk hst hgot h2 P2 P hs1
            have P := PP
            clear PP
            unfold relVal
            go_simp
            refine Rel.every_two 1 4 (by kernel_rfl) (by rfl) (by rfl) (by rfl) (by rfl) ?_ ?_
            · intro W1 h1
              have PP := Lib.hid (P.out.keep' h1)
              skip
              have BX : Box W1 x #[.string nm, .slice pc4 code.length cc4, .slice pd4 data.length cd4, vs, vr] := PP.out.box
              have cx := BX.cells
              go_simp
              apply Rel.gives_value
              refine ⟨KeepBut.refl _ _, ?_⟩
              clear h1 cx BX P
              have P := PP
              clear PP
              go_simp
              apply Rel.every_one 4 (by kernel_rfl) (by rfl) (by rfl)
              intro W4 h4
              go_simp
              apply Rel.gives_value
              refine ⟨((Keep.refl _).alloc _).but _, ?_⟩
              have PP := Lib.hid (P.out.keep' (h4.alloc (.cells #[.int .i64 s.kind, .int .u32 s.off, .string s.comp, .string s.name, .int .u16 s.perm] 49)))
              have BB := Lib.hid (Box.new W4 #[.int .i64 s.kind, .int .u32 s.off, .string s.comp, .string s.name, .int .u16 s.perm] 49)
              obtain ⟨gb, hgb⟩ : ∃ gb, gb = W4.heap.size := ⟨_, rfl⟩
              rw [← hgb] at BB ⊢
              obtain ⟨WB, hWB⟩ : ∃ WB, WB = W4.alloc (.cells #[.int .i64 s.kind, .int .u32 s.off, .string s.comp, .string s.name, .int .u16 s.perm] 49) := ⟨_, rfl⟩
              rw [← hWB] at PP BB ⊢
              clear hWB hgb h4 P
              have P := PP
              clear PP
              go_simp
              apply Rel.every_one 5 (by kernel_rfl) (by rfl) (by rfl)
              intro W6 h6
              have P6 := Lib.hid (P.out.keep' h6)
              have B6 := BB.out.keep h6
              refine gives_append_src W6 (.tmp 35) (.tmp 38) 24 24 rfl (x + 1) 49 i2 _ 5 56 Tryd.underlying24 hi2 hq0 hq1 hq2 rfl _ _ _ rfl P6.out.rels (.slice (some ⟨gb, 0, none⟩) 1 1) 1 (relRow s) rfl (Src.ofSlice W6 Tryd.underlying24 _ 1 1 _ rfl (fun j u hj => by rw [show (⟨gb, 0, none⟩ : Addr).add j = ⟨gb, j, none⟩ by unfold Addr.add; split <;> simp_all]; rw [B6.cells]; simpa [relRow] using hj) (fun u hu => by simp [relRow] at hu; rcases hu with rfl | rfl | rfl | rfl | rfl <;> rfl)) (by have := NB.out; unfold maxLen; omega) (by have := NB.out; omega) (by have := P6.out.box.lt; exact this) ?_
              intro v7 V7 o7 g7 b7
              refine ⟨grown_but g7 _ (fun g hg => .inr (by have := (World.ownsRow.lt P6.out.rels g hg).1; show x ≤ g; exact Nat.le_of_succ_le this)), ?_⟩
              have PP := Lib.hid (P6.out.pushR o7 g7 b7)
              have NV := Lib.hid (show rs.length + 1 ≤ maxLen by have := NB.out; unfold maxLen; omega)
              obtain ⟨pv, cv, hv7, _, _, _⟩ := owns_cells o7 NV.out
              obtain ⟨nv, hnv⟩ : ∃ nv, nv = rs.length + 1 := ⟨_, rfl⟩
              rw [← hnv] at hv7
              clear hnv
              subst hv7
              clear o7 g7 b7 h6 B6 P6 P BB
              have P := PP
              clear PP
              go_simp
              apply Rel.every_one 6 (by kernel_rfl) (by rfl) (by rfl)
              intro W8 h8
              go_simp
              apply Rel.gives_value
              refine ⟨KeepBut.refl _ _, ?_⟩
              have PP := Lib.hid (P.out.keep' h8)
              clear h8 P
              have P := PP
              clear PP
              go_simp
              apply Rel.every_one 7 (by kernel_rfl) (by rfl) (by rfl)
              intro W9 h9
              have P9 := Lib.hid (P.out.keep' h9)
              have BX : Box W9 x #[.string nm, .slice pc4 code.length cc4, .slice pd4 data.length cd4, vs, vr] := P9.out.box
              have cx := BX.cells
              have fx := BX.thawed
              go_simp
              apply Rel.gives_skip
              refine ⟨KeepBut.setAt (S := fun z => z = r ∨ x ≤ z) (.inl (.inr (Nat.le_refl _))) (KeepBut.refl _ _) _, ?_⟩
              have PP := Lib.hid (P9.out.store 4 (.slice pv nv cv) vs (.slice pv nv cv) rfl)
              clear h9 cx fx BX P9 P
              have P := PP
              clear PP
              go_simp
              refine Rel.every_end (by kernel_rfl) ?_
              intro WA hA
              have PP := Lib.hid (P.out.keep' hA)
              clear hA P
              have P := PP
              clear PP
              go_wp2_with fail
              go_roundw
              case rel => exact ⟨rs ++ [s], S', _, by have := HLT.out; simp; omega, by simp, P.out, MR.out.more HLT.out GG.out, fun s2 hs2 => by
                rcases List.mem_append.1 hs2 with h | h
                · exact RS.out s2 h
                · rw [List.mem_singleton] at h; subst h; exact HS.out⟩
              case measure => have := HLT.out; simp [intOf]; omega
            · intro W4 h4
              go_simp
              apply Rel.gives_value
              refine ⟨((Keep.refl _).alloc _).but _, ?_⟩
              have PP := Lib.hid (P.out.keep' (h4.alloc (.cells #[.int .i64 s.kind, .int .u32 s.off, .string s.comp, .string s.name, .int .u16 s.perm] 49)))
              have BB := Lib.hid (Box.new W4 #[.int .i64 s.kind, .int .u32 s.off, .string s.comp, .string s.name, .int .u16 s.perm] 49)
              obtain ⟨gb, hgb⟩ : ∃ gb, gb = W4.heap.size := ⟨_, rfl⟩
              rw [← hgb] at BB ⊢
              obtain ⟨WB, hWB⟩ : ∃ WB, WB = W4.alloc (.cells #[.int .i64 s.kind, .int .u32 s.off, .string s.comp, .string s.name, .int .u16 s.perm] 49) := ⟨_, rfl⟩
              rw [← hWB] at PP BB ⊢
              clear hWB hgb h4 P
              have P := PP
              clear PP
              go_simp
              apply Rel.every_one 1 (by kernel_rfl) (by rfl) (by rfl)
              intro W1 h1
              have PP := Lib.hid (P.out.keep' h1)
              have BB := Lib.hid (BB.out.keep h1)
              have BX : Box W1 x #[.string nm, .slice pc4 code.length cc4, .slice pd4 data.length cd4, vs, vr] := PP.out.box
              have cx := BX.cells
              go_simp
              apply Rel.gives_value
              refine ⟨KeepBut.refl _ _, ?_⟩
              clear h1 cx BX P
              have P := PP
              clear PP
              go_simp
              apply Rel.every_one 5 (by kernel_rfl) (by rfl) (by rfl)
              intro W6 h6
              have P6 := Lib.hid (P.out.keep' h6)
              have B6 := BB.out.keep h6
              refine gives_append_src W6 (.tmp 35) (.tmp 38) 24 24 rfl (x + 1) 49 i2 _ 5 56 Tryd.underlying24 hi2 hq0 hq1 hq2 rfl _ _ _ rfl P6.out.rels (.slice (some ⟨gb, 0, none⟩) 1 1) 1 (relRow s) rfl (Src.ofSlice W6 Tryd.underlying24 _ 1 1 _ rfl (fun j u hj => by rw [show (⟨gb, 0, none⟩ : Addr).add j = ⟨gb, j, none⟩ by unfold Addr.add; split <;> simp_all]; rw [B6.cells]; simpa [relRow] using hj) (fun u hu => by simp [relRow] at hu; rcases hu with rfl | rfl | rfl | rfl | rfl <;> rfl)) (by have := NB.out; unfold maxLen; omega) (by have := NB.out; omega) (by have := P6.out.box.lt; exact this) ?_
              intro v7 V7 o7 g7 b7
              refine ⟨grown_but g7 _ (fun g hg => .inr (by have := (World.ownsRow.lt P6.out.rels g hg).1; show x ≤ g; exact Nat.le_of_succ_le this)), ?_⟩
              have PP := Lib.hid (P6.out.pushR o7 g7 b7)
              have NV := Lib.hid (show rs.length + 1 ≤ maxLen by have := NB.out; unfold maxLen; omega)
              obtain ⟨pv, cv, hv7, _, _, _⟩ := owns_cells o7 NV.out
              obtain ⟨nv, hnv⟩ : ∃ nv, nv = rs.length + 1 := ⟨_, rfl⟩
              rw [← hnv] at hv7
              clear hnv
              subst hv7
              clear o7 g7 b7 h6 B6 P6 P BB
              have P := PP
              clear PP
              go_simp
              apply Rel.every_one 6 (by kernel_rfl) (by rfl) (by rfl)
              intro W8 h8
              go_simp
              apply Rel.gives_value
              refine ⟨KeepBut.refl _ _, ?_⟩
              have PP := Lib.hid (P.out.keep' h8)
              clear h8 P
              have P := PP
              clear PP
              go_simp
              apply Rel.every_one 7 (by kernel_rfl) (by rfl) (by rfl)
              intro W9 h9
              have P9 := Lib.hid (P.out.keep' h9)
              have BX : Box W9 x #[.string nm, .slice pc4 code.length cc4, .slice pd4 data.length cd4, vs, vr] := P9.out.box
              have cx := BX.cells
              have fx := BX.thawed
              go_simp
              apply Rel.gives_skip
              refine ⟨KeepBut.setAt (S := fun z => z = r ∨ x ≤ z) (.inl (.inr (Nat.le_refl _))) (KeepBut.refl _ _) _, ?_⟩
              have PP := Lib.hid (P9.out.store 4 (.slice pv nv cv) vs (.slice pv nv cv) rfl)
              clear h9 cx fx BX P9 P
              have P := PP
              clear PP
              go_simp
              refine Rel.every_end (by kernel_rfl) ?_
              intro WA hA
              have PP := Lib.hid (P.out.keep' hA)
              clear hA P
              have P := PP
              clear PP
              go_wp2_with fail
              go_roundw
              case rel => exact ⟨rs ++ [s], S', _, by have := HLT.out; simp; omega, by simp, P.out, MR.out.more HLT.out GG.out, fun s2 hs2 => by
                rcases List.mem_append.1 hs2 with h | h
                · exact RS.out s2 h
                · rw [List.mem_singleton] at h; subst h; exact HS.out⟩
              case measure => have := HLT.out; simp [intOf]; omega
        · have HEQ := Lib.hid (show rs.length = n2 by omega)
          have hd : decide ((rs.length : Int) < (n2 : Int)) = false := decide_eq_false (by omega)
          have G10 := Lib.hid (MR.out.done HEQ.out)
          have HRS := Lib.hid (show rs.length ≤ 256 by omega)
          have CE := Lib.hid (pend_rd w r _ l HX.out S2_ wr P.out.rd)
          clear HEQ hd MR hrs
          go_wp2_with fail
          refine CE.out.mono ?_
          rintro e w11 ⟨S11, rfl, hst, hgot, hk⟩
          have G11 := Lib.hid hgot
          have P11 := Lib.hid (P.out.read hk hst)
          clear hst hgot hk CE P
          have GR := Lib.hid (readC_got G2.out G3.out G4.out G5.out G7.out G8.out G9.out G10.out G11.out)
          obtain ⟨ps, cs, hvs, _, _, _⟩ := own_slAt P11.out.syms (show os.length ≤ maxLen by have := HOS.out; unfold maxLen; omega)
          obtain ⟨pr, cr, hvr, _, _, _⟩ := own_slAt P11.out.rels (show rs.length ≤ maxLen by have := HRS.out; unfold maxLen; omega)
          subst hvs hvr
          have OBJ : Hid (∀ W, KeepBut (fun z => z = w.heap.size) w11 W → ObjAt W ⟨nm, code, data, os, rs⟩ (.slice pc4 code.length cc4) (.slice pd4 data.length cd4) (.slice ps os.length cs) (.slice pr rs.length cr)) := Lib.hid (fun W k => P11.out.objBut k HC5.out.2.1 HD5.out.2.1 HOS.out HRS.out)
          have NUM : Hid (ObjNum ⟨nm, code, data, os, rs⟩) := Lib.hid ⟨HC5.out.2.2, HD5.out.2.2, fun s hs => (OS.out s hs).1, (fun s hs => by have := (RS.out s hs).1; omega), (fun s hs => ⟨(RS.out s hs).2.1.1, (RS.out s hs).2.1.2, (RS.out s hs).2.2.1.1, (RS.out s hs).2.2.1.2⟩)⟩
          have MID : Hid (ObjMid ⟨nm, code, data, os, rs⟩) := Lib.hid ⟨by have := HNM.out; show nm.size ≤ 1000; omega, by have := HC5.out.2.1; show code.length ≤ 100000; omega, by have := HD5.out.2.1; show data.length ≤ 100000; omega, by have := HOS.out; show os.length ≤ 1000; omega, by have := HRS.out; show rs.length ≤ 1000; omega, fun s hs => by have := (OS.out s hs).2; omega, fun s hs => by have := (RS.out s hs).2.2.2.1; omega, fun s hs => by have := (RS.out s hs).2.2.2.2; omega⟩
          have RES : Hid (Box w11 w.heap.size zeroO) := Lib.hid P11.out.res
          have BX : Hid (Box w11 x #[.string nm, .slice pc4 code.length cc4, .slice pd4 data.length cd4, .slice ps os.length cs, .slice pr rs.length cr]) := Lib.hid P11.out.box
          have NX := Lib.hid (show ¬ x = w.heap.size by have : r < x := P11.out.rx; have := RW.out; omega)
          have NRr := Lib.hid (show ¬ r = w.heap.size by have := RW.out; omega)
          have RD : Hid (RdSt w11 r (.slice vp l.length vc0) l S11) := Lib.hid P11.out.rd
          have KW := Lib.hid (show Keep w w11 from P11.out.keep)
          obtain ⟨pp, u, hRB, huu⟩ : ∃ (pp : Nat) (u : Value), Box w11 r #[.slice vp l.length vc0, .int .i64 (pp : Int), u] ∧ (∀ W, KeepBut (fun z => z = w.heap.size) w11 W → match readR l with
              | .ok (y, _) => (⟨nm, code, data, os, rs⟩ : ObjV) = y ∧ u = .nilIface
              | .error (a, c) => c ≠ 0 ∧ OErr W u (byteT, a, c)) := by
            have gr := GR.out
            have rd := RD.out
            have res := RES.out
            cases S11 with
            | ok p11 =>
              refine ⟨p11, .nilIface, rd.2, fun W _ => ?_⟩
              cases hX : readR l with
              | error e => rw [hX] at gr; cases gr
              | ok y => obtain ⟨y, q⟩ := y; rw [hX] at gr; exact ⟨gr.1, rfl⟩
            | error e11 =>
              obtain ⟨a, c⟩ := e11
              obtain ⟨q, p11, h1, h2, h3, h4, h5⟩ := rd
              refine ⟨p11, faultP q, h4, fun W k => ?_⟩
              cases hX : readR l with
              | ok y => obtain ⟨y, q⟩ := y; rw [hX] at gr; cases gr.2
              | error e =>
                rw [hX] at gr
                cases gr
                have rd2 := RdSt.butBox (S := .error (a, c)) ⟨q, p11, h1, h2, h3, h4, h5⟩ res (by decide) k
                refine ⟨h3, .inr ⟨q, byteT, a, c, h3, rfl, rfl, ?_⟩⟩
                refine h5.but k (fun e => ?_)
                subst e
                obtain ⟨t1, e1⟩ := res
                obtain ⟨t2, e2⟩ := h5
                rw [e1] at e2
                cases e2
          have RB := Lib.hid hRB
          have UU := Lib.hid huu
          clear hRB huu
          unfold zeroO at RES
          clear P11 GR
          go_wp2_with fail
          refine Rel.regionO (KeepBut (fun z => z = w.heap.size)) (butWay _) [5] [0, 1, 2, 3, 4, 5, 6] (by kernel_rfl) (by kernel_rfl) (Keep.refl _) ?_
          repeat (apply Rel.ordK_step (by rfl) (by rfl) (by rfl)
                  · intro W' hW'
                    have cx := (BX.out.but hW' NX.out).cells
                    have cr_ := (RB.out.but hW' NRr.out).cells
                    go_simp
                    exact ⟨rfl, Keep.refl _⟩
                  go_simp)
          apply Rel.ordK_loose (by rfl) (by rfl) (by rfl)
          intro Wb hWb
          have Bb := RES.out.keep hWb
          have fb := Bb.thawed
          have cb := Bb.cells
          go_simp
          apply Rel.gives_skip
          obtain ⟨W4, hW4⟩ : ∃ W4, W4 = (((((Wb.setCell ⟨w.heap.size, 0, none⟩ (.string nm)).setCell ⟨w.heap.size, 1, none⟩ (.slice pc4 code.length cc4)).setCell ⟨w.heap.size, 2, none⟩ (.slice pd4 data.length cd4)).setCell ⟨w.heap.size, 3, none⟩ (.slice ps os.length cs)).setCell ⟨w.heap.size, 4, none⟩ (.slice pr rs.length cr)) := ⟨_, rfl⟩
          rw [← hW4]
          have B4 : Box W4 w.heap.size #[.string nm, .slice pc4 code.length cc4, .slice pd4 data.length cd4, .slice ps os.length cs, .slice pr rs.length cr] := by
            rw [hW4]; simpa using ((((Bb.set 0 (.string nm)).set 1 (.slice pc4 code.length cc4)).set 2 (.slice pd4 data.length cd4)).set 3 (.slice ps os.length cs)).set 4 (.slice pr rs.length cr)
          have K34 : KeepBut (fun z => z = w.heap.size) Wb W4 := by
            rw [hW4]
            repeat (with_reducible refine KeepBut.setAt ?_ ?_ _; · exact .inl rfl)
            exact KeepBut.refl _ _
          have K4 := Lib.hid ((hWb.but (fun z => z = w.heap.size)).trans K34)
          refine ⟨K34, ?_⟩
          clear hW4 K34 Bb fb cb hWb
          go_simp
          apply Rel.ordK_step (by rfl) (by rfl) (by rfl)
          · intro W' hW'
            go_simp
            exact ⟨rfl, Keep.refl _⟩
          go_simp
          apply Rel.ordK_end
          intro W5 hW5
          have K5 := Lib.hid (K4.out.trans (hW5.but _))
          have r0 := (B4.keep hW5).cells
          have rf := (B4.keep hW5).thawed
          clear hW5 B4 K4
          go_wp2_with fail
          refine bodyPost_ret (v := .tuple #[.agg #[.string nm, .slice pc4 code.length cc4, .slice pd4 data.length cd4, .slice ps os.length cs, .slice pr rs.length cr], u]) (by simp [results, Tryd.results24, go_sem, r0]; done) rfl ?_
          exact ⟨⟨nm, code, data, os, rs⟩, _, _, _, _, u, rfl, KW.out.butNew K5.out (fun y hy => by omega), OBJ.out _ K5.out, NUM.out, MID.out, UU.out _ K5.out⟩
end Go.Proofs.YtahnbeoacdnhjaaDoor

/- The program's Decode. -/
namespace Go.Proofs.YtahnbeoacdnhjaaDoor
set_option linter.unusedVariables false
set_option linter.unusedSimpArgs false
open Go Go.RowKit
theorem OErr.butBox {w w' : World} {u : Value} {x : WrV} (h : OErr w u x) {g : Nat} {vs : Array Value} (hB : Box w g vs) (hs : vs.size ≠ 3) (k : KeepBut (fun z => z = g) w w') : OErr w' u x := by
  rcases h with h | ⟨q, part, at_, n, h1, h2, h3, h4⟩
  · exact .inl h
  · refine .inr ⟨q, part, at_, n, h1, h2, h3, h4.but k (fun e => ?_)⟩
    subst e
    obtain ⟨t1, e1⟩ := hB
    obtain ⟨t2, e2⟩ := h4
    rw [e1] at e2
    cases e2
    exact hs rfl
def noObj : ObjV := ⟨⟨#[]⟩, [], [], [], []⟩
theorem noObj_at (w : World) : ObjAt w noObj (.slice none 0 0) (.slice none 0 0) (.slice none 0 0) (.slice none 0 0) := by
  have h : ∀ n : Nat, n = 0 → SlAt w (.slice none 0 0) n [] := fun n hn => by
    subst hn
    exact ⟨none, 0, rfl, Nat.le_refl _, Nat.zero_le _, .inl rfl⟩
  exact ⟨h _ rfl, h _ rfl, h _ rfl, h _ rfl⟩
/-- What Decode answers. -/
def DecR (l : List Nat) (w : World) (e : Ending) (w' : World) : Prop := Keep w w' ∧ ∃ (o : ObjV) (vc vd vs vr u : Value), e = .returned (.tuple #[objVal o vc vd vs vr, u]) ∧ ObjAt w' o vc vd vs vr ∧ OErr w' u (decW l) ∧ ∀ y, decL l = .ok y → o = y
theorem DecR.bad {l : List Nat} {w w' : World} {u : Value} {x : WrV} (k : Keep w w') (h : decL l = .error x) (hu : OErr w' u x) : DecR l w (.returned (.tuple #[.agg #[.string ⟨#[]⟩, .slice none 0 0, .slice none 0 0, .slice none 0 0, .slice none 0 0], u])) w' :=
  ⟨k, noObj, _, _, _, _, u, rfl, noObj_at _, by unfold decW; rw [h]; exact hu, fun y hy => by rw [h] at hy; cases hy⟩
theorem DecR.fine {l : List Nat} {w w' : World} {o : ObjV} {vc vd vs vr : Value} (k : Keep w w') (h : decL l = .ok o) (ha : ObjAt w' o vc vd vs vr) : DecR l w (.returned (.tuple #[.agg #[.string o.name, vc, vd, vs, vr], .nilIface])) w' :=
  ⟨k, o, _, _, _, _, _, rfl, ha, by unfold decW; rw [h]; exact OErr.ok, fun y hy => by rw [h] at hy; cases hy; rfl⟩
/-- A row of which a cell is none of an empty object's lies elsewhere than that. -/
theorem SlAt.butZ {w w' : World} {v : Value} {n : Nat} {xs : List Value} (h : SlAt w v n xs) {g : Nat} (hB : Box w g zeroO) (hx : xs = [] ∨ ∃ (i : Nat) (x : Value), xs[i]? = some x ∧ ∀ j : Nat, zeroO[j]? ≠ some x) (k : KeepBut (fun z => z = g) w w') : SlAt w' v n xs := by
  obtain ⟨p, cap, rfl, h1, h2, h3⟩ := h
  refine ⟨p, cap, rfl, h1, h2, ?_⟩
  rcases hx with hx | ⟨i, x, hi, hz⟩
  · exact .inl hx
  · rcases h3 with h3 | ⟨b, off, rfl, hb, hc⟩
    · exact .inl h3
    · refine .inr ⟨b, off, rfl, Nat.lt_of_lt_of_le hb k.size, fun i' x' hi' => ocell_but k hb (fun e => ?_) (hc i' x' hi')⟩
      subst e
      have := hc i x hi
      rw [hB.cells] at this
      exact hz _ this
theorem zero_int (k : IntKind) (n : Int) (j : Nat) : zeroO[j]? ≠ some (.int k n) := by
  unfold zeroO
  match j with
  | 0 | 1 | 2 | 3 | 4 => simp
  | j + 5 => simp
theorem zero_bool (b : Bool) (j : Nat) : zeroO[j]? ≠ some (.bool b) := by
  unfold zeroO
  match j with
  | 0 | 1 | 2 | 3 | 4 => simp
  | j + 5 => simp
theorem ObjAt.butZ {w w' : World} {o : ObjV} {vc vd vs vr : Value} (h : ObjAt w o vc vd vs vr) {g : Nat} (hB : Box w g zeroO) (k : KeepBut (fun z => z = g) w w') : ObjAt w' o vc vd vs vr := by
  refine ⟨h.code.butZ hB ?_ k, h.data.butZ hB ?_ k, h.syms.butZ hB ?_ k, h.rels.butZ hB ?_ k⟩
  · cases o.code with
    | nil => exact .inl rfl
    | cons a l => exact .inr ⟨0, byteV a, rfl, zero_int _ _⟩
  · cases o.data with
    | nil => exact .inl rfl
    | cons a l => exact .inr ⟨0, byteV a, rfl, zero_int _ _⟩
  · cases o.syms with
    | nil => exact .inl rfl
    | cons a l => exact .inr ⟨1, .bool a.data, rfl, zero_bool _⟩
  · cases o.rels with
    | nil => exact .inl rfl
    | cons a l => exact .inr ⟨0, .int .i64 a.kind, rfl, zero_int _ _⟩
set_option maxHeartbeats 4000000 in
set_option maxRecDepth 100000 in
theorem oDecode_aux (vb : Value) (l : List Nat) (w : World) (hl : SlAt w vb l.length (l.map byteV)) (hb : ∀ x ∈ l, x < 256) (few : l.length ≤ 100000) (hp : ErrT w) : Calls Tryd.prog 9 #[vb] w (DecR l w) := by
  obtain ⟨W1, hW1⟩ : ∃ W1, W1 = w.alloc (.cells zeroO 26) := ⟨_, rfl⟩
  have K1 : Hid (Keep w W1) := Lib.hid (by rw [hW1]; exact (Keep.refl _).alloc _)
  have B1 : Hid (Box W1 w.heap.size zeroO) := Lib.hid (by rw [hW1]; exact Box.new _ _ _)
  have CR := Lib.hid (pread_any vb l W1 (hl.keep K1.out) hb few)
  have HP := Lib.hid hp
  have DL := Lib.hid (decL_read l)
  clear hl hb few hp
  unfold zeroO at hW1
  go_enter Tryd.func9, Tryd.ntmps9
  go_wp2_with fail
  rw [← hW1]
  clear hW1
  refine CR.out.mono ?_
  rintro e w2 ⟨o, vc, vd, vs, vr, u, rfl, hk, hO, hN, hM, hX⟩
  have K2 := Lib.hid (K1.out.trans hk)
  have B2 := Lib.hid (B1.out.keep hk)
  have HO := Lib.hid hO
  have HN := Lib.hid hN
  have HM := Lib.hid hM
  obtain ⟨pc, cc, rfl, _, _, _⟩ := hO.code
  obtain ⟨pd, cd, rfl, _, _, _⟩ := hO.data
  obtain ⟨ps, cs, rfl, _, _, _⟩ := hO.syms
  obtain ⟨pr, cr, rfl, _, _, _⟩ := hO.rels
  obtain ⟨n1, hn1⟩ : ∃ n1, n1 = o.code.length := ⟨_, rfl⟩
  obtain ⟨n2, hn2⟩ : ∃ n2, n2 = o.data.length := ⟨_, rfl⟩
  obtain ⟨n3, hn3⟩ : ∃ n3, n3 = o.syms.length := ⟨_, rfl⟩
  obtain ⟨n4, hn4⟩ : ∃ n4, n4 = o.rels.length := ⟨_, rfl⟩
  rw [← hn1, ← hn2, ← hn3, ← hn4] at HO
  unfold objVal
  rw [← hn1, ← hn2, ← hn3, ← hn4]
  clear hn1 hn2 hn3 hn4
  clear hk CR B1 K1
  cases hR : readR l with
  | error e =>
    obtain ⟨a, c⟩ := e
    rw [hR] at hX
    obtain ⟨hc, hu⟩ := hX
    obtain ⟨q, hq⟩ := hu.bad hc
    have HU := Lib.hid (OErr.keep hu ((Keep.refl w2).alloc (.cells #[.string o.name, .slice pc n1 cc, .slice pd n2 cd, .slice ps n3 cs, .slice pr n4 cr] 26)))
    have DE : Hid (decL l = .error (byteT, a, c)) := Lib.hid (by rw [DL.out, hR])
    have B3 := Lib.hid (B2.out.alloc (.cells #[.string o.name, .slice pc n1 cc, .slice pd n2 cd, .slice ps n3 cs, .slice pr n4 cr] 26))
    have r0 := B3.out.cells
    have rf := B3.out.thawed
    subst hq
    clear hu hc hR DL HO HN HM hO hN hM
    unfold faultP
    unfold zeroO at r0 rf
    go_wp2_with fail
    refine bodyPost_ret (v := .tuple #[.agg #[.string ⟨#[]⟩, .slice none 0 0, .slice none 0 0, .slice none 0 0, .slice none 0 0], faultP q]) (by simp [results, Tryd.results9, go_sem, r0, faultP]; done) rfl ?_
    refine DecR.bad ?_ DE.out (OErr.butBox HU.out B3.out (by decide) ?_)
    · repeat (with_reducible refine Keep.setAt ?_ ?_ _; · exact Nat.le_refl _)
      exact K2.out.alloc _
    · repeat (with_reducible refine KeepBut.setAt ?_ ?_ _; · exact .inl rfl)
      exact KeepBut.refl _ _
  | ok y =>
    obtain ⟨y, p⟩ := y
    rw [hR] at hX
    obtain ⟨rfl, rfl⟩ := hX
    have DE : Hid (decL l = if (objW o).2.2 = 0 then .ok o else .error (objW o)) := Lib.hid (by rw [DL.out, hR])
    have KA : Hid (Keep w2 (w2.alloc (.cells #[.string o.name, .slice pc n1 cc, .slice pd n2 cd, .slice ps n3 cs, .slice pr n4 cr] 26))) := Lib.hid ((Keep.refl _).alloc _)
    have BO : Hid (Box (w2.alloc (.cells #[.string o.name, .slice pc n1 cc, .slice pd n2 cd, .slice ps n3 cs, .slice pr n4 cr] 26)) w2.heap.size #[.string o.name, .slice pc n1 cc, .slice pd n2 cd, .slice ps n3 cs, .slice pr n4 cr]) := Lib.hid (Box.new _ _ _)
    have CC := Lib.hid (pcheckO_any o _ _ _ _ _ (HO.out.keep KA.out) HM.out HN.out (HP.out.keep (K2.out.trans KA.out)))
    unfold objVal at CC
    clear hR DL HM HN hO hN hM HP
    go_wp2_with fail
    refine CC.out.mono ?_
    rintro e w3 ⟨u, rfl, hu, hk⟩
    have HU := Lib.hid hu
    have K3 := Lib.hid (K2.out.trans (KA.out.trans hk))
    have B3 := Lib.hid (B2.out.keep (KA.out.trans hk))
    have O3 := Lib.hid (HO.out.keep (KA.out.trans hk))
    have BO3 := Lib.hid (BO.out.keep hk)
    have r0 := B3.out.cells
    have rf := B3.out.thawed
    have co := BO3.out.cells
    unfold zeroO at r0 rf
    clear hk CC BO KA B2 K2 HO
    by_cases z : (objW o).2.2 = 0
    · obtain rfl : u = .nilIface := hu.good z
      have DE2 : Hid (decL l = .ok o) := Lib.hid (by rw [DE.out, if_pos z])
      clear hu z DE
      go_wp2_with fail
      refine bodyPost_ret (v := .tuple #[.agg #[.string o.name, .slice pc n1 cc, .slice pd n2 cd, .slice ps n3 cs, .slice pr n4 cr], .nilIface]) (by simp [results, Tryd.results9, go_sem, r0]; done) rfl ?_
      refine DecR.fine ?_ DE2.out (ObjAt.butZ O3.out B3.out ?_)
      · repeat (with_reducible refine Keep.setAt ?_ ?_ _; · exact Nat.le_refl _)
        exact K3.out
      · repeat (with_reducible refine KeepBut.setAt ?_ ?_ _; · exact .inl rfl)
        exact KeepBut.refl _ _
    · obtain ⟨q, hq⟩ := hu.bad z
      have DE2 : Hid (decL l = .error (objW o)) := Lib.hid (by rw [DE.out, if_neg z])
      subst hq
      clear hu z DE
      unfold faultP
      go_wp2_with fail
      refine bodyPost_ret (v := .tuple #[.agg #[.string ⟨#[]⟩, .slice none 0 0, .slice none 0 0, .slice none 0 0, .slice none 0 0], faultP q]) (by simp [results, Tryd.results9, go_sem, r0, faultP]; done) rfl ?_
      refine DecR.bad ?_ DE2.out (OErr.butBox HU.out B3.out (by decide) ?_)
      · repeat (with_reducible refine Keep.setAt ?_ ?_ _; · exact Nat.le_refl _)
        exact K3.out
      · repeat (with_reducible refine KeepBut.setAt ?_ ?_ _; · exact .inl rfl)
        exact KeepBut.refl _ _
theorem oDecode : PObjDecode ErrT := fun v l w hl hb few hp => oDecode_aux v l w hl hb few hp
end Go.Proofs.YtahnbeoacdnhjaaDoor
