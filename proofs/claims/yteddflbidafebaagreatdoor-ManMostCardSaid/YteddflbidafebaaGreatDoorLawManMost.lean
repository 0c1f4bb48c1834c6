/- hasp/hasplaw17.ManMost: for every input the law answers true, and each argument reads behind the call as it read before. CONDITIONS: the row's own: the listed package-level tables hold what the program's text lays in them (the card ties them to it). -/
import Derived.Test.YteddflbidafebaaGreatDoorCards
import Derived.Test.YteddflbidafebaaGreatDoorTie
import Derived.Test.YteddflbidafebaaGreatDoorTrodKeep
import Derived.Test.YteddflbidafebaaGreatDoorManPre
import Derived.Test.YteddflbidafebaaGreatDoorManP
import Derived.WalkKit
import Derived.ProofKit
import Derived.OpenShut
import Derived.ShutString
import Derived.LaidMore
import Derived.Stop.LaidErr
import Derived.Deep.DeepHandedRow
import Derived.LaidHandle
import Derived.Deep.DeepRowAt
import Derived.Lay
import Derived.JoinedCond
namespace Go.Proofs.YteddflbidafebaaGreatDoor.manMost
set_option linter.unusedVariables false
set_option linter.unusedSimpArgs false
open Go.ChangeShapes Go.WideShapes Go.ChangeAt Go.RowKit
open Go.ChangeMaps (open_string shut_string)

theorem own : ownKnob Tryz.prog.godebug = none := by kernel_rfl
set_option maxRecDepth 100000 in
/-- WHAT THE WALK GIVES, FOR EVERY ARGUMENT AND EVERY WORLD THAT HOLDS THE TABLES. -/
theorem contract (H : Type) (enc : TypeId × Value → H) (W : World) (base : Nat) (args : Array Value) (ds gs : List (DataW H)) (before : List MemPlace)
    (hval : ∀ (j : Nat) t v, Tryz.f3.params[j]? = some t → args[j]? = some v → Value.okWide Tryz.prog W .any base t v)
    (hW : DataW.Whole enc Tryz.prog Tryz.f3.params.toList Rows.manMostSpec.vars false W args.toList ds gs before) (hSz : (DataW.weightsEach Tryz.prog (Tryz.f3.params.toList ++ (OpenSpec.ofChange Rows.manMostSpec).bare.plain.varTypes Tryz.prog) (ds ++ gs)).all (· ≤ reachBytes) = true) (hL : laidMetH Tryz.prog Rows.manMostRow.laid W) (hSh : W.ShapedOpen Tryz.prog) :
    Calls Tryz.prog 3 args W fun e W' => ∃ v, e = .returned v ∧ Rows.manMostSpec.post enc Tryz.prog Tryz.f3 false true false false W args v W' := by
  have hW' := hW
  obtain ⟨p, q, hA0, hV, rfl, hfz, hnd⟩ := hW
  have hA : DataW.TrodAll enc Tryz.prog W 0 (fun _ => true) true Tryz.f3.params.toList args.toList ds p := hA0
  rw [Tryz.params3] at hA hval
  obtain ⟨v0, vs0, d0, ds0, p0, q0, hargs, rfl, rfl, h0, r0⟩ := trodAll_cons hA
  obtain ⟨v1, vs1, d1, ds1, p1, q1, rfl, rfl, rfl, h1, r1⟩ := trodAll_cons r0
  obtain ⟨v2, vs2, d2, ds2, p2, q2, rfl, rfl, rfl, h2, r2⟩ := trodAll_cons r1
  obtain ⟨rfl, rfl, rfl⟩ := trodAll_nil r2
  obtain rfl : args = #[v0, v1, v2] := by cases args; simp_all
  obtain ⟨rfl, rfl⟩ := trodVars_none hV
  have hAk := hA0
  have hlt := fun p hp => hW'.lt p hp
  obtain ⟨a0, rfl, rfl, rfl, w0⟩ := open_int Tryz.underlying5 (hval 0 5 v0 rfl rfl) h0
  obtain ⟨a1, rfl, rfl, rfl, w1⟩ := open_int Tryz.underlying5 (hval 1 5 v1 rfl rfl) h1
  obtain ⟨a2, rfl, rfl, rfl, w2⟩ := open_int Tryz.underlying22 (hval 2 22 v2 rfl rfl) h2
  clear hA0
  have hall : ([5, 5, 22].all fun t => Tryz.prog.readableRec t && decide (t < Tryz.prog.types.size)) = true := by kernel_rfl
  have hrd : ∀ t ∈ Tryz.f3.params.toList, Tryz.prog.readableRec t = true ∧ t < Tryz.prog.types.size := by
    rw [Tryz.params3]
    intro t ht
    simpa using List.all_eq_true.1 hall t ht
  refine (manMost_walk mParse mText mIndex mCheck a0 a1 a2 (by have := bounds_u8 w0; omega) (by have := bounds_u8 w1; omega) (by have := bounds_u16 w2; omega) W (mPre_of hL (by simp [Rows.manMostRow]) (by simp [Rows.manMostRow]) hSh)).mono fun e W' hp => ?_
  obtain ⟨he, hg⟩ := hp
  subst he
  refine ⟨_, rfl, _, _, _, [], _, [], hW', trodAll_cons_mk (shut_bool Tryz.underlying4 _) trodAll_mk0, trodAll_keep laidOut hg hrd hAk (fun p hp => hlt p (List.mem_append_left _ hp)) (fun p hp => by simpa using hlt p (List.mem_append_left _ hp)), rfl, Below.frame hg _, fun h => by cases h⟩

noncomputable def W0 (os : Os) : World := World.doorLaid Tryz.prog 79 os
noncomputable def At.w (os : Os) : World := (W0 os).layVars Tryz.prog [("unicode/utf8.first", Rows.laid_unicode_utf8_first)]
theorem w_os (os : Os) : (At.w os).os = os := World.layVars_os _ _ _
noncomputable def Bs : List Nat := (List.range (W0 default).heap.size).filter fun b => b != 5
noncomputable def At.i (_os : Os) : Input := ⟨#[], #[.int .u8 0, .int .u8 0, .int .u16 0], []⟩
noncomputable abbrev At.m (os : Os) : World := ((At.w os).forCall (fun _ _ => 0) (At.i os)).memory
theorem At.heapEq (os : Os) : (At.m os).heap = (At.w os).heap := by simp [At.m, World.memory, World.forCall, At.i, Input.heap]
noncomputable abbrev At.plain : List (String × DataW Unit) := Rows.manMostRow.laid.filter fun x => x.2.handleName?.isNone
theorem At.small (os : Os) : LaidIn Tryz.prog (At.w os) (At.plain.filter fun x => !["unicode/utf8.first"].contains x.1) Bs :=
  LaidIn.of_run Bs 8 (by kernel_rfl) (by kernel_rfl) (by kernel_rfl) (by kernel_rfl)
theorem At.laidP (os : Os) : laidMet Tryz.prog At.plain (At.w os) :=
  laidMet_layVars (w0 := W0 os) ["unicode/utf8.first"] Bs (by kernel_rfl) (by kernel_rfl) (by kernel_rfl) (At.small os)
theorem At.met (os : Os) : laidMetH Tryz.prog Rows.manMostRow.laid (At.m os) :=
  laidMetH_of_parts ((At.laidP os).of_heap (At.heapEq os).symm) (by kernel_rfl)
theorem At.vars (os : Os) : ((At.w os).forCall (fun _ _ => 0) (At.i os)).variablesZipB Tryz.checked.prog = true := by kernel_rfl
theorem At.heap (os : Os) : (((At.w os).forCall (fun _ _ => 0) (At.i os)).heap.toList.drop Tryz.checked.prog.globals.size).take ((begin Tryz.checked.prog (fun _ _ => 0) default).world.heap.size - Tryz.checked.prog.globals.size) = (begin Tryz.checked.prog (fun _ _ => 0) default).world.heap.toList.drop Tryz.checked.prog.globals.size := by kernel_rfl
theorem At.ok (os : Os) : Input.okWideB Tryz.checked.prog ((At.w os).forCall (fun _ _ => 0) (At.i os)) 3 (At.i os) = true := by kernel_rfl
theorem At.reads (os : Os) {H : Type} (enc : TypeId × Value → H) : ∃ places, DataW.whole enc Tryz.checked.prog (At.m os) Tryz.f3.params.toList Rows.manMostSpec.vars false (At.i os).args.toList 8 = some ([.lit (.int .u8 0), .lit (.int .u8 0), .lit (.int .u16 0)], [], places) := ⟨[], by kernel_rfl⟩

set_option maxRecDepth 100000 in
theorem lifted (os : Os) (started : os.Started) (H : Type) (enc : TypeId × Value → H) (F : Stop.Interp) :
    ReturnsInHanded {} Tryz.checked os 3 .any ((OpenSpec.ofChange Rows.manMostSpec).preRow enc Tryz.prog Tryz.f3 Rows.manMostRow.domain false Rows.manMostRow.laid) (((OpenSpec.ofChange Rows.manMostSpec).at F).post enc Tryz.prog Tryz.f3 false true false false) := by
  obtain ⟨places, hx⟩ := At.reads os enc
  refine returnsInHanded_of_row (C := Tryz.checked) (s := OpenSpec.ofChange Rows.manMostSpec) own started (by kernel_rfl) Tryz.func3
    ⟨At.w os, fun _ _ => 0, At.i os, w_os os, World.shaped_of_ZipB (At.vars os) (At.heap os), rfl, (Input.okWide_of_okWideB (base := (At.w os).heap.size) (At.ok os)).2,
      OpenSpec.preRow_of_cond 8 hx (by kernel_rfl) (fun k hk => by cases hk) (by kernel_rfl) (At.met os), by simp [Assume.holds]⟩ ?_
  intro W base args ds gs before hval hW _ _ hSz hL hSh _
  exact contract H enc W base args ds gs before hval hW hSz hL hSh

theorem said : Rows.ManMostSaid :=
  OpenClaim.holds_of_cond 3 Tryz.f3 rfl rfl rfl rfl rfl rfl rfl ⟨rfl, rfl, rfl, rfl, rfl⟩ rfl rfl rfl rfl rfl (by kernel_rfl) Tryz.func3 (by kernel_rfl)
    (of_decide_eq_true (by kernel_rfl)) (by unfold Func.isWrapper; first | (rw [if_pos (by decide +kernel)]; kernel_rfl) | (rw [if_neg (by decide +kernel)]; exact ⟨rfl, rfl⟩))
    (fun os started H enc _ F => by rw [OpenClaim.pre_eq_preRow]; exact lifted os started H enc F)

theorem plain (f : FuncId) (fn : Func) (hf : Tryz.pinned.checked.prog.funcNamed "hasp/hasplaw17.ManMost" = some f) (hfn : Tryz.pinned.checked.prog.funcs[f]? = some fn) :
    true = Tryz.pinned.checked.prog.looks [] ∧ ∀ (j : Nat) t, fn.params[j]? = some t → Tryz.pinned.checked.prog.wantsStandIn t = false := by
  obtain rfl : f = 3 := Option.some.inj ((show Tryz.prog.funcNamed "hasp/hasplaw17.ManMost" = some 3 by kernel_rfl).symm.trans hf) |>.symm
  obtain rfl : fn = Tryz.f3 := (Option.some.inj (Tryz.func3.symm.trans hfn)).symm
  refine ⟨by kernel_rfl, fun j t ht => ?_⟩
  rw [Tryz.params3] at ht
  have hm : t ∈ [5, 5, 22] := by simpa using Array.mem_of_getElem? ht
  have hall : ([5, 5, 22].all fun u => !Tryz.prog.wantsStandIn u) = true := by kernel_rfl
  exact (show Tryz.prog.wantsStandIn t = false by simpa using List.all_eq_true.1 hall t hm)

/-- THE CARD. -/
theorem card : Rows.ManMostCardSaid :=
  Claim7.holds_tied_plain_at .later [] [.data, .data, .data, .data, .handle, .sentinel, .sentinel, .pinned] _ _ _ said (fun _ h => by cases h) (by kernel_rfl) (fun _ h => by cases h) manMost_row_tie rfl ⟨rfl, rfl⟩ (by kernel_rfl) rfl plain (by kernel_rfl)
end Go.Proofs.YteddflbidafebaaGreatDoor.manMost
