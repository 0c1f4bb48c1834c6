/- RetBox, LkDef, LkEach, LkFind, LkObj, LkGrn, LkTake: The end of a body whose results lie in blocks: told by what the blocks hold, the world itself let go of. -/
import Derived.Test.YtbmjnfnekmeegaaGreatDoorGBase
import Derived.Test.YtbmjnfnekmeegaaGreatDoorGRdrC
import Derived.Test.YtbmjnfnekmeegaaGreatDoorGLnkA
import Derived.Test.YtbmjnfnekmeegaaGreatDoorGTell
import Derived.Shelf.Abstract
import Derived.Test.YtbmjnfnekmeegaaGreatDoorGManP
import Derived.Test.YtbmjnfnekmeegaaGreatDoorGObjF
/- The end of a body whose results lie in blocks: told by what the blocks hold, the world itself let go of. -/
namespace Go.Proofs.YtbmjnfnekmeegaaGreatDoor
set_option linter.unusedVariables false
set_option linter.unusedSimpArgs false
open Go Go.RowKit
theorem Box.past {W : World} {b P i : Nat} {vs : Array Value} (hb : b ≠ P) (v : Value) (h : Box W b vs) : Box (W.setCell ⟨P, i, none⟩ v) b vs := h.other hb v
theorem Box.conv {W : World} {b : Nat} {vs vs' : Array Value} (h : Box W b vs) (e : vs = vs') : Box W b vs' := e ▸ h
theorem ret_box {P : Program} {fn : Func} {R : Ending → World → Prop} {a : Act} {w W : World} {b : Nat} {vs : Array Value} (hB : Box W b vs) (hK : Keep w W) (h : ∀ W', Box W' b vs → Keep w W' → bodyPost P fn R .ret a W') : bodyPost P fn R .ret a W := h W hB hK
theorem ret_box2 {P : Program} {fn : Func} {R : Ending → World → Prop} {a : Act} {w W : World} {b c : Nat} {vs us : Array Value} (hB : Box W b vs) (hC : Box W c us) (hK : Keep w W) (h : ∀ W', Box W' b vs → Box W' c us → Keep w W' → bodyPost P fn R .ret a W') : bodyPost P fn R .ret a W := h W hB hC hK
end Go.Proofs.YtbmjnfnekmeegaaGreatDoor

/- The program's linker as it lies; what its checks answer; fault. -/
namespace Go.Proofs.YtbmjnfnekmeegaaGreatDoor
set_option linter.unusedVariables false
set_option linter.unusedSimpArgs false
open Go Go.RowKit Go.Extern.Stop Go.Stop Go.Extern
def errnoV (n : Int) : Value := .iface 139 (.int .i64 n)
/-- A linker: a manifest, objects, an image on its way (seven values). -/
structure LkAt (w : World) (b : Nat) (m : ManV) (vc vi vs vg : Value) (l : List ObjV) (vl : Value) (qs : List V4) (z ps ss is st ad bs : Value) : Prop where
  box : Box w b #[vc, vi, vs, vg, .string m.start.comp, .string m.start.from_, .string m.start.name, vl, z, ps, ss, is, st, ad, bs]
  man : ManAt w m vc vi vs vg
  objs : ObjsAt w vl l qs
theorem LkAt.keep {w w' : World} {b : Nat} {m : ManV} {vc vi vs vg : Value} {l : List ObjV} {vl : Value} {qs : List V4} {z ps ss is st ad bs : Value} (h : LkAt w b m vc vi vs vg l vl qs z ps ss is st ad bs) (k : Keep w w') : LkAt w' b m vc vi vs vg l vl qs z ps ss is st ad bs :=
  ⟨h.box.keep k, h.man.keep k, h.objs.keep k⟩
/-- What is handed to fault, of what is to be told of part and place k. -/
def WV (w : World) (v : Value) (part : ByteArray) (k : Int) (x : Option LnkW) : Prop :=
  (x = none ∧ (v = .nilIface ∨ v = errnoV 0)) ∨ (∃ n, n ≠ 0 ∧ x = some (((part, k, n) : WrV), okW) ∧ v = errnoV n) ∨
  ∃ (ip : ByteArray) (ia n : Int) (q : Nat), n ≠ 0 ∧ x = some (((part, k, 0) : WrV), ((ip, ia, n) : WrV)) ∧ v = faultP q ∧ Box w q #[.string ip, .int .i64 ia, errnoV n]
theorem WV.keep {w w' : World} {v : Value} {part : ByteArray} {k : Int} {x : Option LnkW} (h : WV w v part k x) (hk : Keep w w') : WV w' v part k x := by
  rcases h with h | h | ⟨ip, ia, n, q, a, b, c, d⟩
  · exact .inl h
  · exact .inr (.inl h)
  · exact .inr (.inr ⟨ip, ia, n, q, a, b, c, d.keep hk⟩)
/-- Of an Errno. -/
def errO (part : ByteArray) (k n : Int) : Option LnkW := if n = 0 then none else some (((part, k, n) : WrV), okW)
theorem errO_zero (part : ByteArray) (k : Int) : errO part k 0 = none := rfl
theorem errO_not {part : ByteArray} {k n : Int} (h : n ≠ 0) : errO part k n = some (((part, k, n) : WrV), okW) := if_neg h
theorem WV.errno (w : World) (part : ByteArray) (k n : Int) : WV w (errnoV n) part k (errO part k n) := by
  by_cases h : n = 0
  · subst h; exact .inl ⟨rfl, .inr rfl⟩
  · exact .inr (.inl ⟨n, h, errO_not h, rfl⟩)
/-- What a check answers. -/
def LChk (w : World) (x : Option LnkW) (e : Ending) (w' : World) : Prop := ∃ u, e = .returned u ∧ LErr w' u x ∧ Keep w w'
theorem LChk.nil {w w' : World} (k : Keep w w') : LChk w none (.returned .nilIface) w' := ⟨_, rfl, rfl, k⟩
theorem LErr.one {w : World} {part : ByteArray} {k n : Int} {q : Nat} (hn : n ≠ 0) (hB : Box w q #[.string part, .int .i64 k, errnoV n]) : LErr w (faultP q) (some (((part, k, n) : WrV), okW)) :=
  .inl ⟨rfl, hn, .inr ⟨q, part, k, n, hn, rfl, rfl, hB⟩⟩
theorem LErr.two {w : World} {part ip : ByteArray} {k ia n : Int} {q q2 : Nat} (hn : n ≠ 0) (hB : Box w q #[.string part, .int .i64 k, faultP q2]) (hB2 : Box w q2 #[.string ip, .int .i64 ia, errnoV n]) : LErr w (faultP q) (some (((part, k, 0) : WrV), ((ip, ia, n) : WrV))) :=
  .inr ⟨hn, q, q2, rfl, hB, hB2⟩
/-- errors.Is of one Errno and another: no. -/
theorem is_errno_not (n m : Int) (hnm : n ≠ m) (w : World) :
    Calls Tryz.prog 55 #[.iface 139 (.int .i64 n), .iface 139 (.int .i64 m)] w fun e w' => e = .returned (.bool false) ∧ Keep w w' := by
  have h8 := callTypeOf
  have h32 := callComparable
  have mR := isMethodComparable
  have hd : (n == m) = false := by simpa using hnm
  have heq := fun W => Lib.run_eql_iface_int (P := Tryz.prog) (k := .i64) W n m Tryz.underlying42 isComp Tryz.underlying139
  rw [hd] at heq
  have nI2 := noIsErrnoO
  have nU2 := noUnwrapErrnoO
  have nV2 := noUnwrapsErrnoO
  clear hnm hd
  go_enter Tryz.func55, Tryz.ntmps55
  go_wp2
  refine wp_loop_rounds 1 ?_
  rw [rounds_succ]
  go_wp2
  go_ret
  refine ⟨rfl, ?_⟩
  repeat (first | exact Keep.refl _ | with_reducible refine Keep.alloc ?_ _ | with_reducible refine Keep.drew ?_ | with_reducible refine Keep.setCell ?_ (by simp) _)
set_option maxHeartbeats 1000000 in
theorem lkfault_nil (part : ByteArray) (k : Int) (w : World) : Calls Tryz.prog 63 #[.string part, .int .i64 k, .nilIface] w fun e w' => e = .returned .nilIface ∧ Keep w w' := by
  go_enter Tryz.func63, Tryz.ntmps63
  go_wp2_with fail
  go_ret
  exact ⟨rfl, Keep.refl _⟩
set_option maxHeartbeats 1000000 in
theorem lkfault_zero (part : ByteArray) (k : Int) (w : World) : Calls Tryz.prog 63 #[.string part, .int .i64 k, errnoV 0] w fun e w' => e = .returned .nilIface ∧ Keep w w' := by
  unfold errnoV
  have C := is_same 0
  go_enter Tryz.func63, Tryz.ntmps63
  go_wp2_with fail
  refine (C _).mono ?_
  rintro e w1 ⟨rfl, rfl⟩
  go_wp2_with fail
  go_ret
  exact ⟨rfl, Keep.refl _⟩
set_option maxHeartbeats 1000000 in
theorem lkfault_errno (part : ByteArray) (k n : Int) (hn : n ≠ 0) (w : World) : Calls Tryz.prog 63 #[.string part, .int .i64 k, errnoV n] w fun e w' => ∃ q, e = .returned (faultP q) ∧ Box w' q #[.string part, .int .i64 k, errnoV n] ∧ Keep w w' := by
  unfold errnoV faultP
  have C := Lib.hid (fun W => is_errno_not n 0 hn W)
  clear hn
  go_enter Tryz.func63, Tryz.ntmps63
  go_wp2_with fail
  refine (C.out _).mono ?_
  rintro e w1 ⟨rfl, hk⟩
  have HK := Lib.hid hk
  clear hk
  go_wp2_with fail
  go_ret
  exact ⟨_, rfl, Box.new _ _ _, HK.out.alloc _⟩
set_option maxHeartbeats 1000000 in
theorem lkfault_fault (part ip : ByteArray) (k ia n : Int) (hn : n ≠ 0) (q2 : Nat) (w : World) (hB : Box w q2 #[.string ip, .int .i64 ia, errnoV n]) : Calls Tryz.prog 63 #[.string part, .int .i64 k, faultP q2] w fun e w' => ∃ q, e = .returned (faultP q) ∧ Box w' q #[.string part, .int .i64 k, faultP q2] ∧ Box w' q2 #[.string ip, .int .i64 ia, errnoV n] ∧ Keep w w' := by
  unfold faultP
  have HB := Lib.hid hB
  have C := Lib.hid (is_otherO q2 ip ia n 0 hn w hB)
  clear hn hB
  go_enter Tryz.func63, Tryz.ntmps63
  go_wp2_with fail
  refine C.out.mono ?_
  rintro e w1 ⟨rfl, hk⟩
  have HK := Lib.hid hk
  clear hk
  go_wp2_with fail
  go_ret
  exact ⟨_, rfl, Box.new _ _ _, (HB.out.keep HK.out).alloc _, HK.out.alloc _⟩
/-- fault, of whatever is handed to it. -/
theorem lkfault_any (part : ByteArray) (k : Int) (x : Option LnkW) (v : Value) (w : World) (h : WV w v part k x) : Calls Tryz.prog 63 #[.string part, .int .i64 k, v] w (LChk w x) := by
  rcases h with ⟨rfl, rfl | rfl⟩ | ⟨n, hn, rfl, rfl⟩ | ⟨ip, ia, n, q, hn, rfl, rfl, hB⟩
  · refine (lkfault_nil part k w).mono ?_
    rintro e w' ⟨rfl, hk⟩
    exact LChk.nil hk
  · refine (lkfault_zero part k w).mono ?_
    rintro e w' ⟨rfl, hk⟩
    exact LChk.nil hk
  · refine (lkfault_errno part k n hn w).mono ?_
    rintro e w' ⟨q, rfl, hB, hk⟩
    exact ⟨_, rfl, LErr.one hn hB, hk⟩
  · refine (lkfault_fault part ip k ia n hn q w hB).mono ?_
    rintro e w' ⟨q1, rfl, hB1, hB2, hk⟩
    exact ⟨_, rfl, LErr.two hn hB1 hB2, hk⟩
end Go.Proofs.YtbmjnfnekmeegaaGreatDoor

/- The linker's each, whatever is asked at each place. -/
namespace Go.Proofs.YtbmjnfnekmeegaaGreatDoor
set_option linter.unusedVariables false
set_option linter.unusedSimpArgs false
open Go Go.RowKit
theorem firstO_go {α : Type} {f : Nat → Option α} {n k : Nat} (hk : k < n) (h : f k = none) : firstO f (n - k) k = firstO f (n - (k + 1)) (k + 1) := by
  obtain ⟨d, hd⟩ : ∃ d, n - k = d + 1 := ⟨n - k - 1, by omega⟩
  rw [hd, show n - (k + 1) = d by omega, firstO, h]
theorem firstO_hit {α : Type} {f : Nat → Option α} {n k : Nat} {a : α} (hk : k < n) (h : f k = some a) : firstO f (n - k) k = some a := by
  obtain ⟨d, hd⟩ : ∃ d, n - k = d + 1 := ⟨n - k - 1, by omega⟩
  rw [hd, firstO, h]
set_option maxHeartbeats 4000000 in
set_option maxRecDepth 100000 in
theorem lkeach1_any (part : ByteArray) (n : Nat) (few : n ≤ 1000000) (g : FuncId) (cap : Value) (f : Nat → Option LnkW) (w : World) (he : ∀ args w, (callFunc g args).run Tryz.prog w = .ok (.enter g args) w)
    (hc : ∀ (i : Nat) (W : World), i < n → Keep w W → Calls Tryz.prog g #[.int .i64 (i : Int), cap] W fun e w' => ∃ v, e = .returned v ∧ WV w' v part (i : Int) (f i) ∧ Keep W w') :
    Calls Tryz.prog 57 #[.string part, .int .i64 (n : Int), .func (.func g) #[] #[cap]] w (LChk w (firstO f n 0)) := by
  have HC := Lib.hid hc
  clear hc
  go_enter Tryz.func57, Tryz.ntmps57
  go_wp2_with fail
  go_loopw [7, 8, 10] (fun _ _ i wr => ∃ k : Nat, k ≤ n ∧ i = .int .i64 (k : Int) ∧ firstO f n 0 = firstO f (n - k) k ∧ Keep w wr) (fun _ _ i _ => n - (intOf i).toNat)
  case atStart => exact ⟨0, Nat.zero_le _, rfl, rfl, Keep.refl _⟩
  case round =>
    obtain ⟨k, hk, rfl, hfi, hK⟩ := hrel
    have HFI := Lib.hid hfi
    have HK := Lib.hid hK
    clear hfi hK
    by_cases hlt : k < n
    · have hki : (k : Int) < (n : Int) := by omega
      have CC := Lib.hid (HC.out k wr hlt HK.out)
      go_wp2_with fail
      go_at_fn g
      refine CC.out.mono ?_
      rintro e w2 ⟨v, rfl, hwv, hk2⟩
      have CF := Lib.hid (lkfault_any part (k : Int) (f k) v w2 hwv)
      have HK2 := Lib.hid (HK.out.trans hk2)
      clear hwv hk2
      go_wp2_with fail
      refine CF.out.mono ?_
      rintro e w3 ⟨u, rfl, hle, hk3⟩
      have HK3 := Lib.hid (HK2.out.trans hk3)
      have HLE := Lib.hid hle
      clear hle hk3
      rcases hx : f k with _ | y
      · obtain rfl : u = .nilIface := by
          have h1 := HLE.out
          rw [hx] at h1
          exact h1
        have HN := Lib.hid (HFI.out.trans (firstO_go hlt hx))
        clear hx
        go_wp2_with fail
        go_roundw
        case rel => exact ⟨k + 1, hlt, by go_num, HN.out, HK3.out⟩
        case measure => simp [intOf]; omega
      · obtain ⟨q, rfl⟩ : ∃ q, u = faultP q := by
          have h1 := HLE.out
          rw [hx] at h1
          exact h1.bad
        have HN := Lib.hid (HFI.out.trans (firstO_hit hlt hx))
        have HY := Lib.hid hx
        clear hx
        unfold faultP
        go_wp2_with fail
        go_ret
        rw [HN.out]
        refine ⟨_, rfl, ?_, HK3.out⟩
        have h1 := HLE.out
        rw [HY.out] at h1
        exact h1
    · obtain rfl : k = n := by omega
      have HS0 : Hid (firstO f k 0 = none) := Lib.hid (by rw [HFI.out, Nat.sub_self]; rfl)
      go_wp2_with fail
      go_ret
      rw [HS0.out]
      exact LChk.nil HK.out
set_option maxHeartbeats 4000000 in
set_option maxRecDepth 100000 in
theorem lkeach3_any (part : ByteArray) (n : Nat) (few : n ≤ 1000000) (g : FuncId) (cap cap2 cap3 : Value) (f : Nat → Option LnkW) (w : World) (he : ∀ args w, (callFunc g args).run Tryz.prog w = .ok (.enter g args) w)
    (hc : ∀ (i : Nat) (W : World), i < n → Keep w W → Calls Tryz.prog g #[.int .i64 (i : Int), cap, cap2, cap3] W fun e w' => ∃ v, e = .returned v ∧ WV w' v part (i : Int) (f i) ∧ Keep W w') :
    Calls Tryz.prog 57 #[.string part, .int .i64 (n : Int), .func (.func g) #[] #[cap, cap2, cap3]] w (LChk w (firstO f n 0)) := by
  have HC := Lib.hid hc
  clear hc
  go_enter Tryz.func57, Tryz.ntmps57
  go_wp2_with fail
  go_loopw [7, 8, 10] (fun _ _ i wr => ∃ k : Nat, k ≤ n ∧ i = .int .i64 (k : Int) ∧ firstO f n 0 = firstO f (n - k) k ∧ Keep w wr) (fun _ _ i _ => n - (intOf i).toNat)
  case atStart => exact ⟨0, Nat.zero_le _, rfl, rfl, Keep.refl _⟩
  case round =>
    obtain ⟨k, hk, rfl, hfi, hK⟩ := hrel
    have HFI := Lib.hid hfi
    have HK := Lib.hid hK
    clear hfi hK
    by_cases hlt : k < n
    · have hki : (k : Int) < (n : Int) := by omega
      have CC := Lib.hid (HC.out k wr hlt HK.out)
      go_wp2_with fail
      go_at_fn g
      refine CC.out.mono ?_
      rintro e w2 ⟨v, rfl, hwv, hk2⟩
      have CF := Lib.hid (lkfault_any part (k : Int) (f k) v w2 hwv)
      have HK2 := Lib.hid (HK.out.trans hk2)
      clear hwv hk2
      go_wp2_with fail
      refine CF.out.mono ?_
      rintro e w3 ⟨u, rfl, hle, hk3⟩
      have HK3 := Lib.hid (HK2.out.trans hk3)
      have HLE := Lib.hid hle
      clear hle hk3
      rcases hx : f k with _ | y
      · obtain rfl : u = .nilIface := by
          have h1 := HLE.out
          rw [hx] at h1
          exact h1
        have HN := Lib.hid (HFI.out.trans (firstO_go hlt hx))
        clear hx
        go_wp2_with fail
        go_roundw
        case rel => exact ⟨k + 1, hlt, by go_num, HN.out, HK3.out⟩
        case measure => simp [intOf]; omega
      · obtain ⟨q, rfl⟩ : ∃ q, u = faultP q := by
          have h1 := HLE.out
          rw [hx] at h1
          exact h1.bad
        have HN := Lib.hid (HFI.out.trans (firstO_hit hlt hx))
        have HY := Lib.hid hx
        clear hx
        unfold faultP
        go_wp2_with fail
        go_ret
        rw [HN.out]
        refine ⟨_, rfl, ?_, HK3.out⟩
        have h1 := HLE.out
        rw [HY.out] at h1
        exact h1
    · obtain rfl : k = n := by omega
      have HS0 : Hid (firstO f k 0 = none) := Lib.hid (by rw [HFI.out, Nat.sub_self]; rfl)
      go_wp2_with fail
      go_ret
      rw [HS0.out]
      exact LChk.nil HK.out
end Go.Proofs.YtbmjnfnekmeegaaGreatDoor

/- slices.IndexFunc of objects, of grants; the linker's find, share. -/
namespace Go.Proofs.YtbmjnfnekmeegaaGreatDoor
set_option linter.unusedVariables false
set_option linter.unusedSimpArgs false
open Go Go.RowKit
set_option maxHeartbeats 4000000 in
set_option maxRecDepth 100000 in
theorem lkidxO_any (l : List ObjV) (qs : List V4) (p : Option Addr) (cap : Nat) (g : FuncId) (cp : Value) (f : ObjV → Bool) (w : World) (few : l.length ≤ 1000000) (hcap : l.length ≤ cap) (hq : qs.length = l.length) (hl : l = [] ∨ ∃ b off, p = some ⟨b, off, none⟩ ∧ b < w.heap.size ∧ ∀ (k : Nat) (o : ObjV) (q : V4), l[k]? = some o → qs[k]? = some q → w.cell? ⟨b, off + k * 5, none⟩ = some (.string o.name) ∧ w.cell? ⟨b, off + k * 5 + 1, none⟩ = some q.1 ∧ w.cell? ⟨b, off + k * 5 + 2, none⟩ = some q.2.1 ∧ w.cell? ⟨b, off + k * 5 + 3, none⟩ = some q.2.2.1 ∧ w.cell? ⟨b, off + k * 5 + 4, none⟩ = some q.2.2.2) (he : ∀ args w, (callFunc g args).run Tryz.prog w = .ok (.enter g args) w)
    (hc : ∀ (c : ObjV) (q : V4) (W : World), c ∈ l → Keep w W → Calls Tryz.prog g #[objVal c q.1 q.2.1 q.2.2.1 q.2.2.2, cp] W fun e w' => e = .returned (.bool (f c)) ∧ Keep W w') :
    Calls Tryz.prog 162 #[.slice p l.length cap, .func (.func g) #[] #[cp]] w fun e w' => e = .returned (.int .i64 (idxF f l 0)) ∧ Keep w w' := by
  have HC := Lib.hid hc
  have HL := Lib.hid hl
  have HQ := Lib.hid hq
  clear hc hl hq
  obtain ⟨res, hres⟩ : ∃ res, res = idxF f l 0 := ⟨_, rfl⟩
  rw [← hres]
  have HR : Hid (res = idxF f (l.drop 0) 0) := Lib.hid (by rw [List.drop_zero]; exact hres)
  clear hres
  go_enter Tryz.func162, Tryz.ntmps162
  go_wp2_with fail
  go_loopw [5, 8] (fun _ i wr => ∃ k : Nat, k ≤ l.length ∧ i = .int .i64 (k : Int) ∧ res = idxF f (l.drop k) k ∧ Keep w wr) (fun _ i _ => l.length - (intOf i).toNat)
  case atStart => exact ⟨0, Nat.zero_le _, rfl, HR.out, Keep.refl _⟩
  case round =>
    obtain ⟨k, hk, rfl, hfi, hK⟩ := hrel
    have HFI := Lib.hid hfi
    have KW := Lib.hid hK
    clear hfi hK
    by_cases hlt : k < l.length
    · have hki : (k : Int) < (l.length : Int) := by omega
      obtain ⟨x, hx⟩ : ∃ x, l[k]? = some x := ⟨_, List.getElem?_eq_getElem hlt⟩
      have HX := Lib.hid hx
      have CC := Lib.hid (HC.out x (qs[k]'(by rw [HQ.out]; exact hlt)) wr (List.mem_of_getElem? hx) KW.out)
      unfold objVal at CC
      obtain ⟨b, off, rfl, hb, hcl⟩ : ∃ b off, p = some ⟨b, off, none⟩ ∧ b < w.heap.size ∧ _ := by
        rcases HL.out with e | e
        · rw [e] at hx; simp at hx
        · exact e
      have hcl := hcl k x (qs[k]'(by rw [HQ.out]; exact hlt)) hx (List.getElem?_eq_getElem _)
      clear hx
      obtain ⟨Q, hQ⟩ : ∃ Q, Q = qs[k]'(by rw [HQ.out]; exact hlt) := ⟨_, rfl⟩
      rw [← hQ] at CC hcl
      clear hQ
      have n0 := KW.out.cellOf hcl.1
      have n1 := KW.out.cellOf hcl.2.1
      have n2 := KW.out.cellOf hcl.2.2.1
      have n3 := KW.out.cellOf hcl.2.2.2.1
      have n4 := KW.out.cellOf hcl.2.2.2.2
      clear hcl
      obtain ⟨y, hy⟩ : ∃ y, f x = y := ⟨_, rfl⟩
      rw [hy] at CC
      cases y with
      | true =>
        have HN := Lib.hid (HFI.out.trans (idxF_hit HX.out hy))
        clear hy
        go_wp2_with fail
        go_at_fn g
        refine CC.out.mono ?_
        rintro e w2 ⟨rfl, hk2⟩
        have HK2 := Lib.hid (KW.out.trans hk2)
        clear hk2
        go_wp2_with fail
        go_ret
        exact ⟨by rw [HN.out]; rfl, HK2.out⟩
      | false =>
        have HN := Lib.hid (HFI.out.trans (idxF_go HX.out hy))
        clear hy
        go_wp2_with fail
        go_at_fn g
        refine CC.out.mono ?_
        rintro e w2 ⟨rfl, hk2⟩
        have HK2 := Lib.hid (KW.out.trans hk2)
        clear hk2
        go_wp2_with fail
        go_roundw
        case rel => exact ⟨k + 1, hlt, by go_num, HN.out, HK2.out⟩
        case measure => simp [intOf]; omega
    · obtain rfl : k = l.length := by omega
      have HN : Hid (res = -1) := Lib.hid (HFI.out.trans (idxF_none (Nat.le_refl _)))
      go_wp2_with fail
      go_ret
      exact ⟨by rw [HN.out]; rfl, KW.out⟩
set_option maxHeartbeats 4000000 in
set_option maxRecDepth 100000 in
theorem lkidxG_any (l : List GrnV) (p : Option Addr) (cap : Nat) (g : FuncId) (c1 c2 c3 : Value) (f : GrnV → Bool) (w : World) (few : l.length ≤ 1000000) (hl : SlAt w (.slice p l.length cap) l.length (l.flatMap grnRow)) (he : ∀ args w, (callFunc g args).run Tryz.prog w = .ok (.enter g args) w)
    (hc : ∀ (c : GrnV) (W : World), c ∈ l → Keep w W → Calls Tryz.prog g #[grnVal c, c1, c2, c3] W fun e w' => e = .returned (.bool (f c)) ∧ Keep W w') :
    Calls Tryz.prog 167 #[.slice p l.length cap, .func (.func g) #[] #[c1, c2, c3]] w fun e w' => e = .returned (.int .i64 (idxF f l 0)) ∧ Keep w w' := by
  have HC := Lib.hid hc
  have HL := Lib.hid hl
  clear hc hl
  obtain ⟨res, hres⟩ : ∃ res, res = idxF f l 0 := ⟨_, rfl⟩
  rw [← hres]
  have HR : Hid (res = idxF f (l.drop 0) 0) := Lib.hid (by rw [List.drop_zero]; exact hres)
  clear hres
  go_enter Tryz.func167, Tryz.ntmps167
  go_wp2_with fail
  go_loopw [5, 8] (fun _ i wr => ∃ k : Nat, k ≤ l.length ∧ i = .int .i64 (k : Int) ∧ res = idxF f (l.drop k) k ∧ Keep w wr) (fun _ i _ => l.length - (intOf i).toNat)
  case atStart => exact ⟨0, Nat.zero_le _, rfl, HR.out, Keep.refl _⟩
  case round =>
    obtain ⟨k, hk, rfl, hfi, hK⟩ := hrel
    have HFI := Lib.hid hfi
    have KW := Lib.hid hK
    clear hfi hK
    by_cases hlt : k < l.length
    · have hki : (k : Int) < (l.length : Int) := by omega
      obtain ⟨x, hx⟩ : ∃ x, l[k]? = some x := ⟨_, List.getElem?_eq_getElem hlt⟩
      have HX := Lib.hid hx
      have CC := Lib.hid (HC.out x wr (List.mem_of_getElem? hx) KW.out)
      unfold grnVal at CC
      clear hx
      obtain ⟨b, off, cap', e0, hcap, n0⟩ := SlAt.cellOf grnRow_length HL.out HX.out (j := 0) (x := .string x.comp) rfl
      cases e0
      obtain ⟨b1, off1, cap1, e1, _, n1⟩ := SlAt.cellOf grnRow_length HL.out HX.out (j := 1) (x := .string x.share) rfl
      cases e1
      obtain ⟨b2, off2, cap2', e2, _, n2⟩ := SlAt.cellOf grnRow_length HL.out HX.out (j := 2) (x := .int .u16 x.perm) rfl
      cases e2
      replace n0 := KW.out.cellOf n0
      replace n1 := KW.out.cellOf n1
      replace n2 := KW.out.cellOf n2
      rw [Nat.add_zero] at n0
      rw [← Nat.add_assoc] at n1 n2
      obtain ⟨y, hy⟩ : ∃ y, f x = y := ⟨_, rfl⟩
      rw [hy] at CC
      cases y with
      | true =>
        have HN := Lib.hid (HFI.out.trans (idxF_hit HX.out hy))
        clear hy
        go_wp2_with fail
        go_at_fn g
        refine CC.out.mono ?_
        rintro e w2 ⟨rfl, hk2⟩
        have HK2 := Lib.hid (KW.out.trans hk2)
        clear hk2
        go_wp2_with fail
        go_ret
        exact ⟨by rw [HN.out]; rfl, HK2.out⟩
      | false =>
        have HN := Lib.hid (HFI.out.trans (idxF_go HX.out hy))
        clear hy
        go_wp2_with fail
        go_at_fn g
        refine CC.out.mono ?_
        rintro e w2 ⟨rfl, hk2⟩
        have HK2 := Lib.hid (KW.out.trans hk2)
        clear hk2
        go_wp2_with fail
        go_roundw
        case rel => exact ⟨k + 1, hlt, by go_num, HN.out, HK2.out⟩
        case measure => simp [intOf]; omega
    · obtain rfl : k = l.length := by omega
      have HN : Hid (res = -1) := Lib.hid (HFI.out.trans (idxF_none (Nat.le_refl _)))
      go_wp2_with fail
      go_ret
      exact ⟨by rw [HN.out]; rfl, KW.out⟩

theorem lkfind1_any (o : ObjV) (q : V4) (b : Nat) (n : ByteArray) (w : World) (hB : Box w b #[.string n]) : Calls Tryz.prog 163 #[objVal o q.1 q.2.1 q.2.2.1 q.2.2.2, .pointer (some ⟨b, 0, none⟩)] w fun e w' => e = .returned (.bool (decide (o.name = n))) ∧ Keep w w' := by
  unfold objVal
  have c1 := fun o => (hB.alloc o).cells
  rw [← mstr_beq]
  clear hB
  go_enter Tryz.func163, Tryz.ntmps163
  go_wp2_with fail
  go_ret
  exact ⟨rfl, (Keep.refl _).alloc _⟩
theorem lkshare1_any (c : CompV) (b : Nat) (n : ByteArray) (w : World) (hB : Box w b #[.string n]) : Calls Tryz.prog 166 #[compVal c, .pointer (some ⟨b, 0, none⟩)] w fun e w' => e = .returned (.bool (decide (c.name = n))) ∧ Keep w w' := by
  unfold compVal
  have c1 := fun o => (hB.alloc o).cells
  rw [← mstr_beq]
  clear hB
  go_enter Tryz.func166, Tryz.ntmps166
  go_wp2_with fail
  go_ret
  exact ⟨rfl, (Keep.refl _).alloc _⟩
set_option maxHeartbeats 4000000 in
set_option maxRecDepth 100000 in
theorem lkfind_any (b : Nat) (m : ManV) (vc vi vs vg : Value) (l : List ObjV) (vl : Value) (qs : List V4) (z ps ss is st ad bs : Value) (n : ByteArray) (w : World) (h : LkAt w b m vc vi vs vg l vl qs z ps ss is st ad bs) (few : l.length ≤ 1000000) :
    Calls Tryz.prog 116 #[.pointer (some ⟨b, 0, none⟩), .string n] w fun e w' => e = .returned (.int .i64 (idxO l n 0)) ∧ Keep w w' := by
  have hq := h.objs.nqs
  obtain ⟨p, cap, rfl, hcap, hx⟩ := h.objs.objsAt
  obtain ⟨W0, hW0⟩ : ∃ W0, W0 = w.alloc (.cells #[.string n] 9) := ⟨_, rfl⟩
  have K0 : Hid (Keep w W0) := Lib.hid (by rw [hW0]; exact (Keep.refl _).alloc _)
  have BN : Hid (Box W0 w.heap.size #[.string n]) := Lib.hid (by rw [hW0]; exact Box.new _ _ _)
  have cb := fun o => (h.box.alloc o).cells
  have C := Lib.hid (lkidxO_any l qs p cap 163 (.pointer (some ⟨w.heap.size, 0, none⟩)) (fun o => decide (o.name = n)) W0 few hcap hq (by
      rcases hx with e | ⟨b, off, e1, e2, e3⟩
      · exact .inl e
      · refine .inr ⟨b, off, e1, Nat.lt_of_lt_of_le e2 K0.out.size, fun k o q h1 h2 => ?_⟩
        obtain ⟨a0, a1, a2, a3, a4⟩ := e3 k o q h1 h2
        exact ⟨K0.out.cellOf a0, K0.out.cellOf a1, K0.out.cellOf a2, K0.out.cellOf a3, K0.out.cellOf a4⟩)
    (enters_of Tryz.func163 (by kernel_rfl) rfl) (fun o q W _ hk => lkfind1_any o q w.heap.size n W (BN.out.keep hk)))
  have EI := Lib.hid (idxO_F n l 0)
  clear h hx hq
  go_enter Tryz.func116, Tryz.ntmps116
  go_wp2_with fail
  rw [← hW0]
  refine C.out.mono ?_
  rintro e w1 ⟨rfl, hk⟩
  have HK := Lib.hid (K0.out.trans hk)
  clear hk hW0
  go_wp2_with fail
  go_ret
  exact ⟨by rw [EI.out]; rfl, HK.out⟩
set_option maxHeartbeats 4000000 in
set_option maxRecDepth 100000 in
theorem lkshare_any (b : Nat) (m : ManV) (vc vi vs vg : Value) (l : List ObjV) (vl : Value) (qs : List V4) (z ps ss is st ad bs : Value) (n : ByteArray) (w : World) (h : LkAt w b m vc vi vs vg l vl qs z ps ss is st ad bs) (few : m.shrs.length ≤ 1000000) :
    Calls Tryz.prog 119 #[.pointer (some ⟨b, 0, none⟩), .string n] w fun e w' => e = .returned (.int .i64 (idxL m.shrs n 0)) ∧ Keep w w' := by
  have HS := h.man.shrs
  obtain ⟨p, cap, rfl, _, _, _⟩ := h.man.shrs
  obtain ⟨W0, hW0⟩ : ∃ W0, W0 = w.alloc (.cells #[.string n] 9) := ⟨_, rfl⟩
  have K0 : Hid (Keep w W0) := Lib.hid (by rw [hW0]; exact (Keep.refl _).alloc _)
  have BN : Hid (Box W0 w.heap.size #[.string n]) := Lib.hid (by rw [hW0]; exact Box.new _ _ _)
  have cb := fun o => (h.box.alloc o).cells
  have C := Lib.hid (pidxS_any m.shrs p cap 166 (.pointer (some ⟨w.heap.size, 0, none⟩)) (fun c => decide (c.name = n)) W0 few (HS.keep K0.out) (enters_of Tryz.func166 (by kernel_rfl) rfl) (fun c W _ hk => lkshare1_any c w.heap.size n W (BN.out.keep hk)))
  have EI := Lib.hid (idxL_F n m.shrs 0)
  clear HS h
  go_enter Tryz.func119, Tryz.ntmps119
  go_wp2_with fail
  rw [← hW0]
  refine C.out.mono ?_
  rintro e w1 ⟨rfl, hk⟩
  have HK := Lib.hid (K0.out.trans hk)
  clear hk hW0
  go_wp2_with fail
  go_ret
  exact ⟨by rw [EI.out]; rfl, HK.out⟩
end Go.Proofs.YtbmjnfnekmeegaaGreatDoor

/- The linker's object. -/
namespace Go.Proofs.YtbmjnfnekmeegaaGreatDoor
set_option linter.unusedVariables false
set_option linter.unusedSimpArgs false
open Go Go.RowKit
/-- The c-th comp, its object: which one it is, where it lies. -/
structure LkHas (m : ManV) (l : List ObjV) (qs : List V4) (c : Nat) (cc : CompV) (k : Nat) (o : ObjV) (q : V4) : Prop where
  comp : m.comps[c]? = some cc
  obj : l[k]? = some o
  val : qs[k]? = some q
  name : o.name = cc.name
  idx : idxO l cc.name 0 = (k : Int)
theorem lk_has {m : ManV} {l : List ObjV} {qs : List V4} (hn : qs.length = l.length) {c : Nat} {cc : CompV} {o : ObjV} (hc : m.comps[c]? = some cc) (ho : findO l cc.name = some o) : ∃ k q, LkHas m l qs c cc k o q := by
  rcases idxO_find cc.name l 0 with ⟨a, _⟩ | ⟨k, o', a, a1, a2, a3⟩
  · rw [a] at ho; cases ho
  · rw [a] at ho; cases ho
    exact ⟨k, _, hc, a1, List.getElem?_eq_getElem (by rw [hn]; exact (List.getElem?_eq_some_iff.1 a1).1), a2, by rw [a3]; simp⟩
set_option maxHeartbeats 4000000 in
set_option maxRecDepth 100000 in
theorem lkobject_any (b : Nat) (m : ManV) (vc vi vs vg : Value) (l : List ObjV) (vl : Value) (qs : List V4) (z ps ss is st ad bs : Value) (c : Nat) (cc : CompV) (k : Nat) (o : ObjV) (q : V4) (H : LkHas m l qs c cc k o q) (w : World) (h : LkAt w b m vc vi vs vg l vl qs z ps ss is st ad bs) (few : l.length ≤ 1000000) :
    Calls Tryz.prog 67 #[.pointer (some ⟨b, 0, none⟩), .int .i64 (c : Int)] w fun e w' => e = .returned (objVal o q.1 q.2.1 q.2.2.1 q.2.2.2) ∧ Keep w w' := by
  obtain ⟨hc, hk, hq, hkn, hix⟩ := H
  obtain ⟨W0, hW0⟩ : ∃ W0, W0 = w.alloc (.cells #[.string ⟨#[]⟩, .slice none 0 0, .slice none 0 0, .slice none 0 0, .slice none 0 0] 76) := ⟨_, rfl⟩
  have K0 : Hid (Keep w W0) := Lib.hid (by rw [hW0]; exact (Keep.refl _).alloc _)
  have B0 : Hid (Box W0 w.heap.size #[.string ⟨#[]⟩, .slice none 0 0, .slice none 0 0, .slice none 0 0, .slice none 0 0]) := Lib.hid (by rw [hW0]; exact Box.new _ _ _)
  have CF := Lib.hid (fun W (hW : Keep W0 W) => lkfind_any b m vc vi vs vg l vl qs z ps ss is st ad bs cc.name W ((h.keep K0.out).keep hW) few)
  rw [hix] at CF
  have HB := Lib.hid (h.box.keep K0.out)
  have HA := Lib.hid (h.objs.at_ k o q hk hq)
  obtain ⟨p1, cap1, rfl, hcap1, hx1⟩ := h.man.compsAt
  obtain ⟨p2, cap2, rfl, hcap2, hx2⟩ := h.objs.objsAt
  have hcl : c < m.comps.length := (List.getElem?_eq_some_iff.1 hc).1
  have hkl : k < l.length := (List.getElem?_eq_some_iff.1 hk).1
  obtain ⟨b1, off1, rfl, hb1, hx1⟩ := hx1.resolve_left (fun e => by rw [e] at hc; simp at hc)
  obtain ⟨b2, off2, rfl, hb2, hx2⟩ := hx2.resolve_left (fun e => by rw [e] at hk; simp at hk)
  have HC := Lib.hid (hx1 c cc hc)
  have HO := Lib.hid (hx2 k o q hk hq)
  obtain ⟨nc, hnc⟩ : ∃ nc, nc = m.comps.length := ⟨_, rfl⟩
  obtain ⟨nl, hnl⟩ : ∃ nl, nl = l.length := ⟨_, rfl⟩
  rw [← hnc] at hcl HB
  rw [← hnl] at hkl HB
  obtain ⟨q0, q1, q2, q3⟩ := q
  obtain ⟨pa, ca, e0, _⟩ := HA.out.code
  obtain ⟨pb, cb, e1, _⟩ := HA.out.data
  obtain ⟨pd, cd, e2, _⟩ := HA.out.syms
  obtain ⟨pe, ce, e3, _⟩ := HA.out.rels
  dsimp only at e0 e1 e2 e3
  subst e0 e1 e2 e3
  obtain ⟨n0, hn0⟩ : ∃ n, n = o.code.length := ⟨_, rfl⟩
  obtain ⟨n1, hn1⟩ : ∃ n, n = o.data.length := ⟨_, rfl⟩
  obtain ⟨n2, hn2⟩ : ∃ n, n = o.syms.length := ⟨_, rfl⟩
  obtain ⟨n3, hn3⟩ : ∃ n, n = o.rels.length := ⟨_, rfl⟩
  dsimp only at HA HO ⊢
  rw [← hn0, ← hn1, ← hn2, ← hn3] at HA HO
  have HNN := Lib.hid (And.intro hn0 (And.intro hn1 (And.intro hn2 hn3)))
  clear hn0 hn1 hn2 hn3
  clear hx1 hx2 hc hk hkn hix hq few h hnc hnl hcap1 hcap2
  go_enter Tryz.func67, Tryz.ntmps67
  go_wp2_with fail
  rw [← hW0]
  clear hW0
  refine region_grows_tail 17 (Keep W0) (by kernel_rfl) (by kernel_rfl) (Keep.refl _).drew ?_
  simp only [List.take_succ_cons, List.take_zero, List.drop_succ_cons, List.drop_zero]
  repeat (first
    | (apply text_pass (by rfl); go_simp)
    | (apply text_step (by rfl)
       · intro W hW
         have cb := (HB.out.keep hW).cells
         have kw := K0.out.trans hW
         have d0 := kw.cellOf HC.out.1
         have o0 := kw.cellOf HO.out.1
         have o1 := kw.cellOf HO.out.2.1
         have o2 := kw.cellOf HO.out.2.2.1
         have o3 := kw.cellOf HO.out.2.2.2.1
         have o4 := kw.cellOf HO.out.2.2.2.2
         go_simp
         first
           | (apply yes_enter; go_at_call 116; refine (CF.out W hW).mono ?_; rintro e w' ⟨rfl, hk⟩; exact ⟨rfl, hW.trans hk⟩)
           | exact ⟨rfl, hW⟩
       go_simp))
  apply text_end
  intro W hW
  have r0 := (B0.out.keep hW).cells
  have rf := (B0.out.keep hW).thawed
  have HW := Lib.hid (K0.out.trans hW)
  clear hW
  go_wp2_with fail
  refine bodyPost_ret (v := objVal o (.slice pa n0 ca) (.slice pb n1 cb) (.slice pd n2 cd) (.slice pe n3 ce)) ?_ rfl ⟨by obtain ⟨e0, e1, e2, e3⟩ := HNN.out; rw [e0, e1, e2, e3], ?_⟩
  · simp [results, Tryz.results67, go_sem, r0, objVal]; done
  · repeat (with_reducible refine Keep.setAt ?_ ?_ _; · first | omega | (simp; done) | (simp; omega))
    exact HW.out
end Go.Proofs.YtbmjnfnekmeegaaGreatDoor

/- The linker's grant. -/
namespace Go.Proofs.YtbmjnfnekmeegaaGreatDoor
set_option linter.unusedVariables false
set_option linter.unusedSimpArgs false
open Go Go.RowKit
def grnF (c s : ByteArray) (g : GrnV) : Bool := decide (g.comp = c) && decide (g.share = s)
set_option maxHeartbeats 4000000 in
set_option maxRecDepth 100000 in
theorem lkgrant1_any (b : Nat) (m : ManV) (vc vi vs vg : Value) (l : List ObjV) (vl : Value) (qs : List V4) (z ps ss is st ad bs : Value) (c : Nat) (cc : CompV) (s : ByteArray) (x : GrnV) (bl bc bn : Nat) (hc : m.comps[c]? = some cc) (w : World) (h : LkAt w b m vc vi vs vg l vl qs z ps ss is st ad bs) (hl : Box w bl #[.pointer (some ⟨b, 0, none⟩)]) (hbc : Box w bc #[.int .i64 (c : Int)]) (hbn : Box w bn #[.string s]) :
    Calls Tryz.prog 168 #[grnVal x, .pointer (some ⟨bl, 0, none⟩), .pointer (some ⟨bc, 0, none⟩), .pointer (some ⟨bn, 0, none⟩)] w fun e w' => e = .returned (.bool (grnF cc.name s x)) ∧ Keep w w' := by
  unfold grnVal grnF
  rw [← mstr_beq, ← mstr_beq]
  obtain ⟨W0, hW0⟩ : ∃ W0, W0 = w.alloc (.cells #[.string x.comp, .string x.share, .int .u16 x.perm] 94) := ⟨_, rfl⟩
  have K0 : Hid (Keep w W0) := Lib.hid (by rw [hW0]; exact (Keep.refl _).alloc _)
  have B0 : Hid (Box W0 w.heap.size #[.string x.comp, .string x.share, .int .u16 x.perm]) := Lib.hid (by rw [hW0]; exact Box.new _ _ _)
  have HB := Lib.hid (h.box.keep K0.out)
  have HL := Lib.hid (hl.keep K0.out)
  have HBC := Lib.hid (hbc.keep K0.out)
  have HBN := Lib.hid (hbn.keep K0.out)
  obtain ⟨p1, cap1, rfl, hcap1, hx1⟩ := h.man.compsAt
  have hcl : c < m.comps.length := (List.getElem?_eq_some_iff.1 hc).1
  obtain ⟨b1, off1, rfl, hb1, hx1⟩ := hx1.resolve_left (fun e => by rw [e] at hc; simp at hc)
  have HC := Lib.hid (hx1 c cc hc)
  obtain ⟨nc, hnc⟩ : ∃ nc, nc = m.comps.length := ⟨_, rfl⟩
  rw [← hnc] at hcl HB
  obtain ⟨t, ht⟩ : ∃ t, t = (x.comp.toList == cc.name.toList) := ⟨_, rfl⟩
  rw [← ht]
  have HT := Lib.hid ht
  clear hx1 hc h hnc hcap1 hl hbc hbn ht
  cases t with
  | true =>
    have d := HT.out.symm
    rw [Bool.true_and]
    go_enter Tryz.func168, Tryz.ntmps168
    go_wp2_with fail
    rw [← hW0]
    clear hW0
    refine region_grows (Keep W0) (by kernel_rfl) (by kernel_rfl) (Keep.refl _).drew ?_
    repeat (first
      | (apply text_pass (by rfl); go_simp)
      | (apply text_step (by rfl)
         · intro W hW
           have c0 := (B0.out.keep hW).cells
           have cb := (HB.out.keep hW).cells
           have cl := (HL.out.keep hW).cells
           have cc1 := (HBC.out.keep hW).cells
           have cn := (HBN.out.keep hW).cells
           have d0 := (K0.out.trans hW).cellOf HC.out.1
           go_simp
           exact ⟨rfl, hW⟩
         go_simp))
    apply text_end
    intro W hW
    have HW := Lib.hid (K0.out.trans hW)
    clear hW
    go_wp2_with fail
    go_ret
    exact ⟨rfl, HW.out⟩
  | false =>
    have d := HT.out.symm
    rw [Bool.false_and]
    go_enter Tryz.func168, Tryz.ntmps168
    go_wp2_with fail
    rw [← hW0]
    clear hW0
    refine region_grows (Keep W0) (by kernel_rfl) (by kernel_rfl) (Keep.refl _).drew ?_
    repeat (first
      | (apply text_pass (by rfl); go_simp)
      | (apply text_step (by rfl)
         · intro W hW
           have c0 := (B0.out.keep hW).cells
           have cb := (HB.out.keep hW).cells
           have cl := (HL.out.keep hW).cells
           have cc1 := (HBC.out.keep hW).cells
           have cn := (HBN.out.keep hW).cells
           have d0 := (K0.out.trans hW).cellOf HC.out.1
           go_simp
           exact ⟨rfl, hW⟩
         go_simp))
    apply text_end
    intro W hW
    have HW := Lib.hid (K0.out.trans hW)
    clear hW
    go_wp2_with fail
    go_ret
    exact ⟨rfl, HW.out⟩
set_option maxHeartbeats 4000000 in
set_option maxRecDepth 100000 in
theorem lkgrant_any (b : Nat) (m : ManV) (vc vi vs vg : Value) (l : List ObjV) (vl : Value) (qs : List V4) (z ps ss is st ad bs : Value) (c : Nat) (cc : CompV) (s : ByteArray) (hc : m.comps[c]? = some cc) (w : World) (h : LkAt w b m vc vi vs vg l vl qs z ps ss is st ad bs) (few : m.grns.length ≤ 1000000) :
    Calls Tryz.prog 120 #[.pointer (some ⟨b, 0, none⟩), .int .i64 (c : Int), .string s] w fun e w' => e = .returned (.int .i64 (idxF (grnF cc.name s) m.grns 0)) ∧ Keep w w' := by
  have HS := h.man.grns
  obtain ⟨W0, hW0⟩ : ∃ W0, W0 = ((w.alloc (.cells #[.pointer (some ⟨b, 0, none⟩)] 95)).alloc (.cells #[.int .i64 (c : Int)] 3)).alloc (.cells #[.string s] 9) := ⟨_, rfl⟩
  have K0 : Hid (Keep w W0) := Lib.hid (by rw [hW0]; exact (((Keep.refl _).alloc _).alloc _).alloc _)
  have BL : Hid (Box W0 w.heap.size #[.pointer (some ⟨b, 0, none⟩)]) := Lib.hid (by rw [hW0]; exact ((Box.new _ _ _).alloc _).alloc _)
  have BC : Hid (Box W0 (w.heap.size + 1) #[.int .i64 (c : Int)]) := Lib.hid (by rw [hW0]; exact (Box.new1 _ _ _ _).alloc _)
  have BS : Hid (Box W0 (w.heap.size + 1 + 1) #[.string s]) := Lib.hid (by rw [hW0]; exact Box.new2 _ _ _ _ _)
  have HA := Lib.hid (h.keep K0.out)
  obtain ⟨p, cap, rfl, _, _, _⟩ := h.man.grns
  have C := Lib.hid (lkidxG_any m.grns p cap 168 (.pointer (some ⟨w.heap.size, 0, none⟩)) (.pointer (some ⟨w.heap.size + 1, 0, none⟩)) (.pointer (some ⟨w.heap.size + 1 + 1, 0, none⟩)) (grnF cc.name s) W0 few (HS.keep K0.out) (enters_of Tryz.func168 (by kernel_rfl) rfl)
    (fun x W _ hk => lkgrant1_any b m vc vi vs _ l vl qs z ps ss is st ad bs c cc s x w.heap.size (w.heap.size + 1) (w.heap.size + 1 + 1) hc W (HA.out.keep hk) (BL.out.keep hk) (BC.out.keep hk) (BS.out.keep hk)))
  have cb := HA.out.box.cells
  have cl := BL.out.cells
  rw [hW0] at cb cl
  clear HS h hc
  go_enter Tryz.func120, Tryz.ntmps120
  go_wp2_with fail
  rw [← hW0]
  refine C.out.mono ?_
  rintro e w1 ⟨rfl, hk⟩
  have HK := Lib.hid (K0.out.trans hk)
  clear hk hW0 cb cl
  go_wp2_with fail
  go_ret
  exact ⟨rfl, HK.out⟩
end Go.Proofs.YtbmjnfnekmeegaaGreatDoor

/- The linker's take, filled; strings.Clone. -/
namespace Go.Proofs.YtbmjnfnekmeegaaGreatDoor
set_option linter.unusedVariables false
set_option linter.unusedSimpArgs false
open Go Go.RowKit
set_option maxHeartbeats 2000000 in
set_option maxRecDepth 100000 in
theorem lktake_any (NB : Nat) (nx sz : Int) (h0 : 0 ≤ nx) (h1 : 0 ≤ sz) (h2 : nx + sz < 4294967296) (w : World) (hB : Box w NB #[.int .u32 nx]) :
    Calls Tryz.prog 70 #[.int .u32 sz, .pointer (some ⟨NB, 0, none⟩)] w fun e w' => e = .returned (.agg #[.int .u32 nx, .int .u32 sz]) ∧ Box w' NB #[.int .u32 (nx + sz)] ∧ KeepBut (fun z => z = NB) w w' := by
  have hlt := hB.lt
  have c1 := fun o => (hB.alloc o).cells
  have HB := Lib.hid hB
  have c2 := hB.cells
  have f2 := hB.thawed
  have wr : IntKind.u32.wrap (nx + sz) = nx + sz := by rw [IntKind.wrap_u32]; omega
  clear hB
  go_enter Tryz.func70, Tryz.ntmps70
  go_wp2_with fail
  refine bodyPost_ret (v := .agg #[.int .u32 nx, .int .u32 sz]) (by simp [results, Tryz.results70, go_sem]; done) rfl ⟨rfl, ?_, ?_⟩
  · simpa using ((HB.out.set 0 (.int .u32 (nx + sz))).alloc (.cells #[.int .u32 nx, .int .u32 sz] 80)).alloc (.cells #[.int .u32 nx, .int .u32 sz] 80)
  · exact ((KeepBut.setAt (S := fun z => z = NB) (.inl rfl) (KeepBut.refl _ _) _).alloc _).alloc _
theorem lkfilled_any (p : Option Addr) (n cap : Nat) (hn : n ≤ 1000000) (w : World) : Calls Tryz.prog 72 #[.slice p n cap] w fun e w' => e = .returned (.int .u32 (fillN n)) ∧ w = w' := by
  have e1 : IntKind.u32.wrap (n : Int) = (n : Int) := by rw [IntKind.wrap_u32]; omega
  go_enter Tryz.func72, Tryz.ntmps72
  go_wp2_with fail
  go_ret
  refine ⟨?_, rfl⟩
  unfold fillN
  show Ending.returned (.int .u32 (((n : Int) + 16 - 1) / 16 * 16)) = _
  refine congrArg (fun z => Ending.returned (Value.int .u32 z)) ?_
  omega
end Go.Proofs.YtbmjnfnekmeegaaGreatDoor
