/- Tells, ErrV: hasplaw4.Tells: of no error and of OK: true; of a Fault and the same part, place, number: true. -/
import Derived.Test.YtbmjnfnekmeegaaGreatDoorGErr
import Derived.Test.YtbmjnfnekmeegaaGreatDoorAs
import Derived.Test.YtbmjnfnekmeegaaGreatDoorGBase
import Derived.WalkSpells
/- hasplaw4.Tells: of no error and of OK: true; of a Fault and the same part, place, number: true. -/
namespace Go.Proofs.YtbmjnfnekmeegaaGreatDoor
set_option linter.unusedVariables false
set_option linter.unusedSimpArgs false
open Go.RowKit Go.Extern.Stop Go.Stop Go.Extern
/-- The variable of package errors as it is laid. -/
def ErrT (w : World) : Prop := w.cell? ⟨0, 0, none⟩ = some (.iface 201 (.agg #[.pointer (some ⟨1, 42, none⟩)]))
theorem ErrT.keep {w w' : World} (h : ErrT w) (k : Keep w w') : ErrT w' := k.cellOf h
/-- Block F is the only one that may change; once it holds e it does so for good. -/
def SetOnce (F : Nat) (e : Value) (w w' : World) : Prop := KeepBut (fun k => k = F) w w' ∧ (Box w F #[e] → Box w' F #[e])
theorem SetOnce.way (F : Nat) (e : Value) : Rel.Way (SetOnce F e) :=
  ⟨fun k => ⟨k.but _, fun h => h.keep k⟩, fun h k => ⟨h.1.trans k.1, fun b => k.2 (h.2 b)⟩⟩
/-- errors.As, told by what stays. -/
theorem as_once (F q : Nat) (old : Value) (w : World) (hE : ErrT w) (hF : Box w F #[old]) (hg : F ≠ 0) :
    Calls Tryz.prog 29 #[.iface 98 (.pointer (some ⟨q, 0, none⟩)), .iface 102 (.pointer (some ⟨F, 0, none⟩))] w fun e w' => e = .returned (.bool true) ∧ SetOnce F (.pointer (some ⟨q, 0, none⟩)) w w' ∧ Box w' F #[.pointer (some ⟨q, 0, none⟩)] := by
  refine (as_hit ⟨q, 0, none⟩ ⟨F, 0, none⟩ old w hE (by rw [hF.cells]; rfl) (hF.thawed 0)).mono ?_
  rintro e w' ⟨rfl, rfl⟩
  have hB := ((((hF.alloc (.cells #[.pointer (some ⟨F, 0, none⟩)] 102)).alloc (.cells #[.pointer (some ⟨1, 102, none⟩), .pointer (some ⟨w.heap.size, 0, none⟩), .int .u64 150] 157)).alloc (.cells #[.pointer (some ⟨1, 102, none⟩), .pointer (some ⟨w.heap.size, 0, none⟩), .int .u64 150] 157)).alloc (.cells #[.pointer (some ⟨q, 0, none⟩)] 98)).set 0 (.pointer (some ⟨q, 0, none⟩))
  have hB' : Box _ F #[.pointer (some ⟨q, 0, none⟩)] := hB
  have hK : KeepBut (fun k => k = F) w _ := (((((KeepBut.refl (fun k => k = F) w).alloc (.cells #[.pointer (some ⟨F, 0, none⟩)] 102)).alloc (.cells #[.pointer (some ⟨1, 102, none⟩), .pointer (some ⟨w.heap.size, 0, none⟩), .int .u64 150] 157)).alloc (.cells #[.pointer (some ⟨1, 102, none⟩), .pointer (some ⟨w.heap.size, 0, none⟩), .int .u64 150] 157)).alloc (.cells #[.pointer (some ⟨q, 0, none⟩)] 98)).setCell (p := ⟨F, 0, none⟩) (.inl rfl) (.pointer (some ⟨q, 0, none⟩))
  exact ⟨rfl, ⟨hK, fun _ => hB'⟩, hB'⟩
theorem tells_nil (w : World) : Calls Tryz.prog 19 #[.nilIface, okV] w fun e w' => e = .returned (.bool true) ∧ Keep w w' := by
  unfold okV wrongV
  go_enter Tryz.func19, Tryz.ntmps19
  go_wp2_with fail
  go_ret
  exact ⟨rfl, (Keep.refl _).alloc _⟩
set_option maxRecDepth 100000 in
set_option maxHeartbeats 1000000 in
theorem tells_fault (q : Nat) (part : ByteArray) (at_ n : Int) (hn : ¬ n = 0) (w : World) (hB : Box w q #[.string part, .int .i64 at_, .iface 139 (.int .i64 n)]) (hE : ErrT w) (hgl : 0 < w.heap.size) :
    Calls Tryz.prog 19 #[.iface 98 (.pointer (some ⟨q, 0, none⟩)), wrongV part at_ n] w fun e w' => e = .returned (.bool true) ∧ Keep w w' := by
  unfold wrongV
  have HB := Lib.hid hB
  have HE := Lib.hid hE
  have lq := hB.lt
  clear hB hE
  go_enter Tryz.func19, Tryz.ntmps19
  go_wp2_with fail
  obtain ⟨W0, hW0⟩ : ∃ W0, W0 = (w.alloc (.cells #[.string part, .int .i64 at_, .int .i64 n] 51)).alloc (.cells #[.pointer none] 98) := ⟨_, rfl⟩
  have BW : Box W0 w.heap.size #[.string part, .int .i64 at_, .int .i64 n] := by rw [hW0]; exact (Box.new _ _ _).alloc _
  have BF : Box W0 (w.heap.size + 1) #[.pointer none] := by rw [hW0]; exact Box.new1 _ _ _ _
  have BQ : Box W0 q #[.string part, .int .i64 at_, .iface 139 (.int .i64 n)] := by rw [hW0]; exact (HB.out.alloc _).alloc _
  have KW : Keep w W0 := by rw [hW0]; exact ((Keep.refl _).alloc _).alloc _
  have EW : Hid (ErrT W0) := Lib.hid (HE.out.keep KW)
  rw [← hW0]
  clear hW0 HB HE
  refine Rel.region (SetOnce (w.heap.size + 1) (.pointer (some ⟨q, 0, none⟩))) (SetOnce.way _ _) [5] (by kernel_rfl) (by kernel_rfl) (Keep.refl _) ?_
  repeat (first
    | (apply Rel.textK_pass (by rfl) (by rfl)
       go_simp)
    | (apply Rel.textK_step (by rfl) (by rfl)
       · intro W hW
         have c0 := (BW.but hW.1 (by omega)).cells
         go_simp
         exact ⟨rfl, Keep.refl _⟩
       go_simp))
  apply Rel.textK_loose (by rfl) (by rfl)
  intro W hW
  go_simp
  apply Rel.gives_enter
  go_at_call 29
  refine (as_once (w.heap.size + 1) q (.pointer none) W (EW.out.keep hW) (BF.keep hW) (by omega)).mono ?_
  rintro e w1 ⟨rfl, hs1, hF1⟩
  refine ⟨_, rfl, hs1, ?_⟩
  have BW1 := (BW.keep hW).but hs1.1 (by omega)
  have BQ1 := (BQ.keep hW).but hs1.1 (by omega)
  have K1 : Keep w w1 := (((KW.trans hW).but (fun k => k = w.heap.size + 1)).trans hs1.1).keep (by rintro k rfl; omega)
  have HK1 := Lib.hid K1
  clear hs1 BW BQ BF EW KW hW K1
  go_simp
  repeat (first
    | (apply Rel.textK_pass (by rfl) (by rfl)
       go_simp)
    | (apply Rel.textK_step (by rfl) (by rfl)
       · intro W hW
         have c0 := (BW1.but hW.1 (by omega)).cells
         have cF := (hW.2 hF1).cells
         have BQW := BQ1.but hW.1 (by omega)
         have cq := BQW.cells
         go_simp
         first
           | exact ⟨rfl, Keep.refl _⟩
           | (apply yes_enter; go_at_call 55; refine (is_wrapped q part at_ n _ BQW).mono ?_; rintro e w' ⟨rfl, hk⟩; exact ⟨rfl, hk⟩)
       go_simp))
  apply Rel.textK_end
  intro W' hW'
  go_wp2_with fail
  go_ret
  exact ⟨rfl, HK1.out.trans hW'⟩
end Go.Proofs.YtbmjnfnekmeegaaGreatDoor

/- Errors as values, and what the reference says of them; hasplaw4.Tells. -/
namespace Go.Proofs.YtbmjnfnekmeegaaGreatDoor
set_option linter.unusedVariables false
set_option linter.unusedSimpArgs false
open Go.RowKit
def faultP (q : Nat) : Value := .iface 98 (.pointer (some ⟨q, 0, none⟩))
/-- An error as a value, and what the reference says of it. -/
def ErrV (w : World) (v wv : Value) : Prop :=
  (wv = okV ∧ v = .nilIface) ∨ ∃ q part at_ n, ¬ n = 0 ∧ wv = wrongV part at_ n ∧ v = faultP q ∧ Box w q #[.string part, .int .i64 at_, .iface 139 (.int .i64 n)]
theorem ErrV.keep {w w' : World} {v wv : Value} (h : ErrV w v wv) (k : Keep w w') : ErrV w' v wv := by
  rcases h with h | ⟨q, part, at_, n, h1, h2, h3, h4⟩
  · exact .inl h
  · exact .inr ⟨q, part, at_, n, h1, h2, h3, h4.keep k⟩
theorem okV_wrong {part : ByteArray} {at_ n : Int} (h : okV = wrongV part at_ n) : n = 0 := by
  unfold okV wrongV at h
  simp only [Value.agg.injEq, Array.mk.injEq, List.cons.injEq, Value.int.injEq, true_and, and_true] at h
  exact h.2.2.symm
theorem ErrV.ok {w : World} {v : Value} (h : ErrV w v okV) : v = .nilIface := by
  rcases h with ⟨_, rfl⟩ | ⟨q, part, at_, n, h1, h2, h3, h4⟩
  · rfl
  · exact absurd (okV_wrong h2) h1
theorem ErrV.isOk {w : World} : ErrV w .nilIface okV := .inl ⟨rfl, rfl⟩
/-- An error that is told: a Fault. -/
theorem ErrV.fault {w : World} {v wv : Value} (h : ErrV w v wv) (hn : wv ≠ okV) : ∃ q, v = faultP q := by
  rcases h with ⟨rfl, _⟩ | ⟨q, part, at_, n, h1, h2, h3, h4⟩
  · exact absurd rfl hn
  · exact ⟨q, h3⟩
theorem ErrT.lt {w : World} (h : ErrT w) : 0 < w.heap.size := World.block_lt_of_cell? _ _ h
theorem tells_any (v wv : Value) (w : World) (h : ErrV w v wv) (hE : ErrT w) : Calls Tryz.prog 19 #[v, wv] w fun e w' => e = .returned (.bool true) ∧ Keep w w' := by
  rcases h with ⟨rfl, rfl⟩ | ⟨q, part, at_, n, h1, rfl, rfl, h4⟩
  · exact tells_nil w
  · exact tells_fault q part at_ n h1 w h4 hE hE.lt
end Go.Proofs.YtbmjnfnekmeegaaGreatDoor
