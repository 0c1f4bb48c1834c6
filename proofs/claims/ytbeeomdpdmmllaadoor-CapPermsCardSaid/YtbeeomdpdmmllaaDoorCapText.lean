/- cap.Text and the reference's CapText: both answer one text. -/
import Derived.Test.YtbeeomdpdmmllaaDoorCapRef
import Derived.Test.YtbeeomdpdmmllaaDoorTabs
import Derived.Test.YtbeeomdpdmmllaaDoorGrow
import Derived.IntWalk
namespace Go.Proofs.YtbeeomdpdmmllaaDoor
set_option linter.unusedVariables false
set_option linter.unusedSimpArgs false
open Go.RowKit

def decB (n : Nat) : ByteArray := ⟨(Lib.decDigits n).toArray⟩
def capText (t : Bool) (b p a m y : Nat) : ByteArray :=
  (if t then ⟨#[33]⟩ else ⟨#[45]⟩) ++ ⟨#[91]⟩ ++ textOf b ++ ⟨#[44]⟩ ++ textOf p ++ ⟨#[41, 32]⟩ ++ textOf a ++ ⟨#[32, 112]⟩ ++ decB m ++ ⟨#[32, 116]⟩ ++ decB y
theorem textOf_size (n : Nat) : (textOf n).size = 10 := by simp [textOf, ByteArray.size, hexLow_length]
theorem decB_size (n : Nat) (h : n < 4294967296) : (decB n).size ≤ 20 := by
  have := Lib.nDigits_le20 n (by omega)
  rw [← Lib.decDigits_length] at this
  simpa [decB, ByteArray.size] using this
theorem itoaB (n : Nat) (w : World) (hn : n < 4294967296) (hT : Tabs w) :
    Calls Tryd.prog 44 #[.int .i64 (n : Int)] w fun e w' => e = .returned (.string (decB n)) ∧ Keep w w' := itoa_keep n w hn hT
theorem decimalB (n : Nat) (w : World) (hn : n < 4294967296) :
    Calls Tryd.prog 46 #[.int .i64 (n : Int)] w fun e w' => e = .returned (.string (decB n)) ∧ Keep w w' := decimal_any n w hn
set_option maxHeartbeats 400000 in
theorem capText_any (t : Bool) (b p a m y : Nat) (hb : b < 4294967296) (hp : p < 4294967296) (ha : a < 4294967296) (hm : m < 65536) (hy : y < 65536) (w : World) (hT : Tabs w) :
    Calls Tryd.prog 37 #[.agg #[.bool t, .int .u32 (b : Int), .int .u32 (p : Int), .int .u32 (a : Int), .int .u16 (m : Int), .int .u16 (y : Int)]] w fun e w' => e = .returned (.string (capText t b p a m y)) ∧ Keep w w' := by
  have s1 := textOf_size b
  have s2 := textOf_size p
  have s3 := textOf_size a
  have s4 := decB_size m (by omega)
  have s5 := decB_size y (by omega)
  have wm : IntKind.i64.wrap (m : Int) = m := IntWalk.i64_in _ (by omega)
  have wy : IntKind.i64.wrap (y : Int) = y := IntWalk.i64_in _ (by omega)
  have hT1 : Hid (Tabs w) := Lib.hid hT
  clear hT
  cases t
  · go_enter Tryd.func37, Tryd.ntmps37
    go_wp2_with fail
    have B : Box (w.alloc (.cells #[.bool false, .int .u32 (b : Int), .int .u32 (p : Int), .int .u32 (a : Int), .int .u16 (m : Int), .int .u16 (y : Int)] 25)) w.heap.size _ := Box.new _ _ _
    refine region_grows (Keep (w.alloc (.cells #[.bool false, .int .u32 (b : Int), .int .u32 (p : Int), .int .u32 (a : Int), .int .u16 (m : Int), .int .u16 (y : Int)] 25))) (by kernel_rfl) (by kernel_rfl) (Keep.refl _).drew ?_
    repeat (first
      | (apply text_step (by rfl)
         · intro W hW
           have xc := (B.keep hW).cells
           go_simp
           first
            | exact ⟨rfl, hW⟩
            | (rw [if_neg (by omega)]; exact ⟨rfl, hW⟩)
            | (apply yes_enter; go_at_call 43; refine (text_keep _ _ ?_ ?_).mono ?_; (· omega); (· exact hT1.out.keep (((Keep.refl _).alloc _).trans hW)); rintro e w' ⟨rfl, hk⟩; exact ⟨rfl, hW.trans hk⟩)
            | (apply yes_enter; go_at_call 44; refine (itoaB _ _ ?_ ?_).mono ?_; (· omega); (· exact hT1.out.keep (((Keep.refl _).alloc _).trans hW)); rintro e w' ⟨rfl, hk⟩; exact ⟨rfl, hW.trans hk⟩)
         go_simp))
    apply text_end
    intro W hW
    go_wp2_with fail
    go_ret
    exact ⟨rfl, ((Keep.refl _).alloc _).trans hW⟩
  · go_enter Tryd.func37, Tryd.ntmps37
    go_wp2_with fail
    have B : Box (w.alloc (.cells #[.bool true, .int .u32 (b : Int), .int .u32 (p : Int), .int .u32 (a : Int), .int .u16 (m : Int), .int .u16 (y : Int)] 25)) w.heap.size _ := Box.new _ _ _
    refine region_grows (Keep (w.alloc (.cells #[.bool true, .int .u32 (b : Int), .int .u32 (p : Int), .int .u32 (a : Int), .int .u16 (m : Int), .int .u16 (y : Int)] 25))) (by kernel_rfl) (by kernel_rfl) (Keep.refl _).drew ?_
    repeat (first
      | (apply text_step (by rfl)
         · intro W hW
           have xc := (B.keep hW).cells
           go_simp
           first
            | exact ⟨rfl, hW⟩
            | (rw [if_neg (by omega)]; exact ⟨rfl, hW⟩)
            | (apply yes_enter; go_at_call 43; refine (text_keep _ _ ?_ ?_).mono ?_; (· omega); (· exact hT1.out.keep (((Keep.refl _).alloc _).trans hW)); rintro e w' ⟨rfl, hk⟩; exact ⟨rfl, hW.trans hk⟩)
            | (apply yes_enter; go_at_call 44; refine (itoaB _ _ ?_ ?_).mono ?_; (· omega); (· exact hT1.out.keep (((Keep.refl _).alloc _).trans hW)); rintro e w' ⟨rfl, hk⟩; exact ⟨rfl, hW.trans hk⟩)
         go_simp))
    apply text_end
    intro W hW
    go_wp2_with fail
    go_ret
    exact ⟨rfl, ((Keep.refl _).alloc _).trans hW⟩
theorem capTextRef_any (t : Bool) (b p a m y : Nat) (hb : b < 4294967296) (hp : p < 4294967296) (ha : a < 4294967296) (hm : m < 65536) (hy : y < 65536) (w : World) (hT : Tabs w) :
    Calls Tryd.prog 38 #[.agg #[.bool t, .int .u32 (b : Int), .int .u32 (p : Int), .int .u32 (a : Int), .int .u16 (m : Int), .int .u16 (y : Int)]] w fun e w' => e = .returned (.string (capText t b p a m y)) ∧ Keep w w' := by
  have s1 := textOf_size b
  have s2 := textOf_size p
  have s3 := textOf_size a
  have s4 := decB_size m (by omega)
  have s5 := decB_size y (by omega)
  have wm : IntKind.i64.wrap (m : Int) = m := IntWalk.i64_in _ (by omega)
  have wy : IntKind.i64.wrap (y : Int) = y := IntWalk.i64_in _ (by omega)
  have hT1 : Hid (Tabs w) := Lib.hid hT
  clear hT
  cases t
  · go_enter Tryd.func38, Tryd.ntmps38
    go_wp2_with fail
    have B : Box (w.alloc (.cells #[.bool false, .int .u32 (b : Int), .int .u32 (p : Int), .int .u32 (a : Int), .int .u16 (m : Int), .int .u16 (y : Int)] 27)) w.heap.size _ := Box.new _ _ _
    refine region_grows (Keep (w.alloc (.cells #[.bool false, .int .u32 (b : Int), .int .u32 (p : Int), .int .u32 (a : Int), .int .u16 (m : Int), .int .u16 (y : Int)] 27))) (by kernel_rfl) (by kernel_rfl) (Keep.refl _).drew ?_
    repeat (first
      | (apply text_step (by rfl)
         · intro W hW
           have xc := (B.keep hW).cells
           go_simp
           first
            | exact ⟨rfl, hW⟩
            | (rw [if_neg (by omega)]; exact ⟨rfl, hW⟩)
            | (apply yes_enter; go_at_call 45; refine (textRef_keep _ _ ?_).mono ?_; (· omega); rintro e w' ⟨rfl, hk⟩; exact ⟨rfl, hW.trans hk⟩)
            | (apply yes_enter; go_at_call 46; refine (decimalB _ _ ?_).mono ?_; (· omega); rintro e w' ⟨rfl, hk⟩; exact ⟨rfl, hW.trans hk⟩)
         go_simp))
    apply text_end
    intro W hW
    go_wp2_with fail
    go_ret
    exact ⟨rfl, ((Keep.refl _).alloc _).trans hW⟩
  · go_enter Tryd.func38, Tryd.ntmps38
    go_wp2_with fail
    have B : Box (w.alloc (.cells #[.bool true, .int .u32 (b : Int), .int .u32 (p : Int), .int .u32 (a : Int), .int .u16 (m : Int), .int .u16 (y : Int)] 27)) w.heap.size _ := Box.new _ _ _
    refine region_grows (Keep (w.alloc (.cells #[.bool true, .int .u32 (b : Int), .int .u32 (p : Int), .int .u32 (a : Int), .int .u16 (m : Int), .int .u16 (y : Int)] 27))) (by kernel_rfl) (by kernel_rfl) (Keep.refl _).drew ?_
    repeat (first
      | (apply text_step (by rfl)
         · intro W hW
           have xc := (B.keep hW).cells
           go_simp
           first
            | exact ⟨rfl, hW⟩
            | (rw [if_neg (by omega)]; exact ⟨rfl, hW⟩)
            | (apply yes_enter; go_at_call 45; refine (textRef_keep _ _ ?_).mono ?_; (· omega); rintro e w' ⟨rfl, hk⟩; exact ⟨rfl, hW.trans hk⟩)
            | (apply yes_enter; go_at_call 46; refine (decimalB _ _ ?_).mono ?_; (· omega); rintro e w' ⟨rfl, hk⟩; exact ⟨rfl, hW.trans hk⟩)
         go_simp))
    apply text_end
    intro W hW
    go_wp2_with fail
    go_ret
    exact ⟨rfl, ((Keep.refl _).alloc _).trans hW⟩
end Go.Proofs.YtbeeomdpdmmllaaDoor
