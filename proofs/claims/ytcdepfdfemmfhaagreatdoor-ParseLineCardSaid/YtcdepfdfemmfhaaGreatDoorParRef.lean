/- The reference's ParseLine: a line; by gen/par2.py. -/
import Derived.Test.YtcdepfdfemmfhaaGreatDoorParOps
import Derived.Test.YtcdepfdfemmfhaaGreatDoorRetBox
namespace Go.Proofs.YtcdepfdfemmfhaaGreatDoor
set_option linter.unusedVariables false
set_option linter.unusedSimpArgs false
open Go.RowKit
def tokS : ByteArray := ⟨#[116, 111, 107, 101, 110]⟩
def zeroP : Value := .agg #[.string noB, .string noB, .bool false, .slice none 0 0]
/-- What ParseLine answers. -/
def ParR (l : List UInt8) (w : World) (e : Ending) (w' : World) : Prop := match lexL l 0 with
  | .error (i, x) => e = .returned (.tuple #[zeroP, wrongV colS i x])
  | .ok ts => match lineL ts with
    | .error (p, x) => e = .returned (.tuple #[zeroP, wrongV tokS p x])
    | .ok q => ∃ v, e = .returned (.tuple #[.agg #[.string q.label, .string q.name, .bool q.dot, v], okV]) ∧ OutAt w' w.heap.size v q.args
theorem ParR.lex {l : List UInt8} {w w' : World} {i : Nat} {x : Int} (h : lexL l 0 = .error (i, x)) : ParR l w (.returned (.tuple #[zeroP, wrongV colS i x])) w' := by unfold ParR; rw [h]
theorem ParR.bad {l : List UInt8} {w w' : World} {ts : List Tok} {p : Nat} {x : Int} (h : lexL l 0 = .ok ts) (h2 : lineL ts = .error (p, x)) : ParR l w (.returned (.tuple #[zeroP, wrongV tokS p x])) w' := by unfold ParR; rw [h]; dsimp only; rw [h2]
theorem ParR.ok {l : List UInt8} {w w' : World} {ts : List Tok} {q : PLn} {v : Value} (h : lexL l 0 = .ok ts) (h2 : lineL ts = .ok q) (hv : OutAt w' w.heap.size v q.args) : ParR l w (.returned (.tuple #[.agg #[.string q.label, .string q.name, .bool q.dot, v], okV])) w' := by unfold ParR; rw [h]; dsimp only; rw [h2]; exact ⟨v, rfl, hv⟩
set_option maxHeartbeats 1000000 in
set_option maxRecDepth 100000 in
theorem rparse_lexbad (s : ByteArray) (hs : s.size ≤ 10000) (w : World) {i : Nat} {x : Int} (hl : lexL s.data.toList 0 = .error (i, x)) : Calls Tryz.prog 6 #[.string s] w fun e w' => ParR s.data.toList w e w' ∧ Keep w w' := by
  have HL := Lib.hid hl
  have x0 : (x != 0) = true := by rcases lexL_bad _ _ _ _ _ (Nat.le_refl _) hl with rfl | rfl | rfl <;> rfl
  have CL := Lib.hid (fun W => rlex_any s (by omega) W)
  clear hl
  go_enter Tryz.func6, Tryz.ntmps6
  go_wp2_with fail
  have B0 : Box ((w.alloc (.cells #[.string ⟨#[]⟩, .string ⟨#[]⟩, .bool false, .slice none 0 0] 32)).alloc (.cells #[.string ⟨#[]⟩, .int .i64 0, .int .i64 0] 34)) w.heap.size #[.string ⟨#[]⟩, .string ⟨#[]⟩, .bool false, .slice none 0 0] := (Box.new _ _ _).alloc _
  have B1 : Box ((w.alloc (.cells #[.string ⟨#[]⟩, .string ⟨#[]⟩, .bool false, .slice none 0 0] 32)).alloc (.cells #[.string ⟨#[]⟩, .int .i64 0, .int .i64 0] 34)) (w.heap.size + 1) #[.string ⟨#[]⟩, .int .i64 0, .int .i64 0] := Box.new1 _ _ _ _
  have K0 : Keep w ((w.alloc (.cells #[.string ⟨#[]⟩, .string ⟨#[]⟩, .bool false, .slice none 0 0] 32)).alloc (.cells #[.string ⟨#[]⟩, .int .i64 0, .int .i64 0] 34)) := ((Keep.refl w).alloc _).alloc _
  refine (CL.out _).mono ?_
  intro e w1 h
  unfold LexR at h
  rw [HL.out] at h
  obtain ⟨rfl, hk⟩ := h
  have HB0 := Lib.hid ((B0.keep hk).alloc (.cells #[.string colS, .int .i64 i, .int .i64 x] 34))
  have HB1 := Lib.hid ((B1.keep hk).alloc (.cells #[.string colS, .int .i64 i, .int .i64 x] 34))
  have K1 := Lib.hid ((K0.trans hk).alloc (.cells #[.string colS, .int .i64 i, .int .i64 x] 34))
  have lt : w.heap.size + 1 < w1.heap.size := (B1.keep hk).lt
  have c0 := HB0.out.cells
  have c1 := HB1.out.cells
  have f0 := HB0.out.thawed
  have f1 := HB1.out.thawed
  unfold colS at c0 c1 f0 f1 HB0 HB1 K1
  clear hk B0 B1 K0
  have n01 : w.heap.size ≠ w.heap.size + 1 := by omega
  have n10 : w.heap.size + 1 ≠ w.heap.size := by omega
  unfold wrongV colS
  go_wp2_with fail
  go_region
  all_goals (
    go_wp2_with fail
    refine ret_box2 (w := w) (b := w.heap.size) (vs := #[.string ⟨#[]⟩, .string ⟨#[]⟩, .bool false, .slice none 0 0]) (c := w.heap.size + 1) (us := #[.string ⟨#[99, 111, 108]⟩, .int .i64 i, .int .i64 x]) ?_ ?_ ?_ ?_
    · apply Box.conv
      · repeat (first | with_reducible exact HB0.out | with_reducible apply Box.drew | with_reducible apply Box.set | apply Box.past n01)
      · rfl
    · apply Box.conv
      · repeat (first | with_reducible exact HB1.out | with_reducible apply Box.drew | with_reducible apply Box.set | apply Box.past n10)
      · rfl
    · repeat (first | with_reducible refine Keep.drew ?_ | (with_reducible refine Keep.setAt ?_ ?_ _; · omega))
      exact K1.out
    intro W' hB hC hK
    have cB := hB.cells
    have cC := hC.cells
    refine bodyPost_ret (v := .tuple #[.agg #[.string ⟨#[]⟩, .string ⟨#[]⟩, .bool false, .slice none 0 0], .agg #[.string ⟨#[99, 111, 108]⟩, .int .i64 i, .int .i64 x]]) (by simp [results, Tryz.results6, go_sem, cB, cC]; done) rfl ⟨ParR.lex HL.out, hK⟩)
theorem OutAt.base {w : World} {b b' : Nat} {v : Value} {out : List (List Tok)} (h : OutAt w b v out) (hb : b' ≤ b) : OutAt w b' v out := by
  obtain ⟨svs, h1, h2, h3⟩ := h
  exact ⟨svs, h1, owns_base h2 hb, fun i sv l a c => ⟨owns_base (h3 i sv l a c).1 hb, (h3 i sv l a c).2⟩⟩
theorem OutAt.setOld {w : World} {b : Nat} {v : Value} {out : List (List Tok)} (h : OutAt w b v out) {c i : Nat} (hc : c < b) (x : Value) : OutAt (w.setCell ⟨c, i, none⟩ x) b v out := by
  obtain ⟨svs, h1, h2, h3⟩ := h
  have ne : ∀ (u : Value) (e : TypeId) (s n : Nat) (xs : List Value), w.ownsRow b e s u n xs → u.ownBlock ≠ some (⟨c, i, none⟩ : Addr).block := fun u e s n xs hu he => by
    have := (World.ownsRow.lt hu _ he).1
    dsimp only at this; omega
  exact ⟨svs, h1, ownsRow_setCell_other h2 (ne _ _ _ _ _ h2) x, fun j sv l a d => ⟨ownsRow_setCell_other (h3 j sv l a d).1 (ne _ _ _ _ _ (h3 j sv l a d).1) x, (h3 j sv l a d).2⟩⟩
theorem OutAt.slice {w : World} {b : Nat} {v : Value} {out : List (List Tok)} (h : OutAt w b v out) : ∃ p c, v = .slice p out.length c := by
  obtain ⟨svs, _, h2, _⟩ := h
  obtain ⟨p, c, e, _⟩ := own_at h2
  exact ⟨p, c, e⟩
theorem OutAt.dr {w : World} {b : Nat} {v : Value} {out : List (List Tok)} (h : OutAt w b v out) : OutAt w.drew b v out := h
theorem ret_out {P : Program} {fn : Func} {R : Ending → World → Prop} {a : Act} {w W : World} {b c base : Nat} {vs us : Array Value} {v : Value} {out : List (List Tok)} (hB : Box W b vs) (hC : Box W c us) (hK : Keep w W) (hO : OutAt W base v out)
    (h : ∀ W', Box W' b vs → Box W' c us → Keep w W' → OutAt W' base v out → bodyPost P fn R .ret a W') : bodyPost P fn R .ret a W := h W hB hC hK hO
theorem calls_past {P : Program} {f : FuncId} {args : Array Value} {R : Ending → World → Prop} {w w1 W : World} {b c d : Nat} {vs us ts : Array Value} (hB : Box W b vs) (hC : Box W c us) (hD : Box W d ts) (hK : Keep w W) (hK1 : Keep w1 W)
    (h : ∀ W', Box W' b vs → Box W' c us → Box W' d ts → Keep w W' → Keep w1 W' → Calls P f args W' R) : Calls P f args W R := h W hB hC hD hK hK1
set_option maxHeartbeats 2000000 in
set_option maxRecDepth 100000 in
theorem rparse_P0R1 (s : ByteArray) (hs : s.size ≤ 10000) (w : World) {ts : List Tok} (hl : lexL s.data.toList 0 = .ok ts) (e0 : ts = []) (hLine : lineL ts = .ok ⟨⟨#[]⟩, ⟨#[]⟩, false, []⟩) : Calls Tryz.prog 6 #[.string s] w fun e w' => ParR s.data.toList w e w' ∧ Keep w w' := by
  have HL := Lib.hid hl
  have HN := Lib.hid hLine
  have few : ts.length ≤ 10000 := by have := (lexL_toks _ _ _ _ (Nat.le_refl _) hl).2; simp at this; omega
  have CL := Lib.hid (fun W => rlex_any s (by omega) W)
  clear hl hLine
  go_enter Tryz.func6, Tryz.ntmps6
  go_wp2_with fail
  have B0 : Box ((w.alloc (.cells #[.string ⟨#[]⟩, .string ⟨#[]⟩, .bool false, .slice none 0 0] 32)).alloc (.cells #[.string ⟨#[]⟩, .int .i64 0, .int .i64 0] 34)) w.heap.size #[.string ⟨#[]⟩, .string ⟨#[]⟩, .bool false, .slice none 0 0] := (Box.new _ _ _).alloc _
  have B1 : Box ((w.alloc (.cells #[.string ⟨#[]⟩, .string ⟨#[]⟩, .bool false, .slice none 0 0] 32)).alloc (.cells #[.string ⟨#[]⟩, .int .i64 0, .int .i64 0] 34)) (w.heap.size + 1) #[.string ⟨#[]⟩, .int .i64 0, .int .i64 0] := Box.new1 _ _ _ _
  have K0 : Keep w ((w.alloc (.cells #[.string ⟨#[]⟩, .string ⟨#[]⟩, .bool false, .slice none 0 0] 32)).alloc (.cells #[.string ⟨#[]⟩, .int .i64 0, .int .i64 0] 34)) := ((Keep.refl w).alloc _).alloc _
  refine (CL.out _).mono ?_
  intro e w1 h
  unfold LexR at h
  rw [HL.out] at h
  obtain ⟨v, rfl, hown, hk⟩ := h
  have TT := own_toks hown
  have HB0 := Lib.hid ((B0.keep hk).alloc (.cells #[.string ⟨#[]⟩, .int .i64 0, .int .i64 0] 34))
  have HB1 := Lib.hid ((B1.keep hk).alloc (.cells #[.string ⟨#[]⟩, .int .i64 0, .int .i64 0] 34))
  have K1 := Lib.hid ((K0.trans hk).alloc (.cells #[.string ⟨#[]⟩, .int .i64 0, .int .i64 0] 34))
  have KA := Lib.hid ((Keep.refl w1).alloc (.cells #[.string ⟨#[]⟩, .int .i64 0, .int .i64 0] 34))
  have BP := Lib.hid (Box.new1 w1 (.cells #[.string ⟨#[]⟩, .int .i64 0, .int .i64 0] 34) #[.string ⟨#[]⟩, .string ⟨#[]⟩, .bool false, .slice none 0 0] 32)
  have lt : w.heap.size + 1 < w1.heap.size := (B1.keep hk).lt
  have n01 : w.heap.size ≠ w.heap.size + 1 := by omega
  have n10 : w.heap.size + 1 ≠ w.heap.size := by omega
  have n0p : w.heap.size ≠ w1.heap.size + 1 := by omega
  have n1p : w.heap.size + 1 ≠ w1.heap.size + 1 := by omega
  have np0 : w1.heap.size + 1 ≠ w.heap.size := by omega
  have np1 : w1.heap.size + 1 ≠ w.heap.size + 1 := by omega
  have c0 := fun o => (HB0.out.alloc o).cells
  have c1 := fun o => (HB1.out.alloc o).cells
  have f0 := fun o => (HB0.out.alloc o).thawed
  have f1 := fun o => (HB1.out.alloc o).thawed
  have HT1 := Lib.hid TT
  clear hk hown B0 B1 K0
  obtain ⟨p_, cap, rfl, hcap, htk⟩ := TT
  subst e0
  clear htk
  unfold okV wrongV
  go_wp2_with fail
  refine ret_out (w := w) (base := w.heap.size) (v := .slice none 0 0) (out := []) (b := w.heap.size) (vs := #[.string ⟨#[]⟩, .string ⟨#[]⟩, .bool false, .slice none 0 0]) (c := w.heap.size + 1) (us := #[.string ⟨#[]⟩, .int .i64 0, .int .i64 0]) ?_ ?_ ?_ ?_ ?_
  · apply Box.conv
    · repeat (first | with_reducible exact HB0.out.alloc _ | with_reducible apply Box.drew | with_reducible apply Box.set | apply Box.past n01 | apply Box.past n0p)
    · rfl
  · apply Box.conv
    · repeat (first | with_reducible exact HB1.out.alloc _ | with_reducible apply Box.drew | with_reducible apply Box.set | apply Box.past n10 | apply Box.past n1p)
    · rfl
  · repeat (first | with_reducible refine Keep.drew ?_ | (with_reducible refine Keep.setAt ?_ ?_ _; · omega))
    exact K1.out.alloc _
  · exact OutAt.nil _ _
  intro W' hB hC hK hO
  have cB := hB.cells
  have cC := hC.cells
  refine bodyPost_ret (v := .tuple #[.agg #[.string ⟨#[]⟩, .string ⟨#[]⟩, .bool false, .slice none 0 0], .agg #[.string ⟨#[]⟩, .int .i64 0, .int .i64 0]]) (by simp [results, Tryz.results6, go_sem, cB, cC]; done) rfl ⟨ParR.ok HL.out HN.out hO, hK⟩
set_option maxHeartbeats 2000000 in
set_option maxRecDepth 100000 in
theorem rparse_P1R2 (s : ByteArray) (hs : s.size ≤ 10000) (w : World) {ts : List Tok} (hl : lexL s.data.toList 0 = .ok ts) (t : Tok) (ht : ts[0]? = some t) (e1 : ts.length = 1) (h1 : ¬ t.kind = 1) (h4 : ¬ t.kind = 4) (hLine : lineL ts = .error (0, 11)) : Calls Tryz.prog 6 #[.string s] w fun e w' => ParR s.data.toList w e w' ∧ Keep w w' := by
  have HL := Lib.hid hl
  have HN := Lib.hid hLine
  have few : ts.length ≤ 10000 := by have := (lexL_toks _ _ _ _ (Nat.le_refl _) hl).2; simp at this; omega
  have CL := Lib.hid (fun W => rlex_any s (by omega) W)
  clear hl hLine
  go_enter Tryz.func6, Tryz.ntmps6
  go_wp2_with fail
  have B0 : Box ((w.alloc (.cells #[.string ⟨#[]⟩, .string ⟨#[]⟩, .bool false, .slice none 0 0] 32)).alloc (.cells #[.string ⟨#[]⟩, .int .i64 0, .int .i64 0] 34)) w.heap.size #[.string ⟨#[]⟩, .string ⟨#[]⟩, .bool false, .slice none 0 0] := (Box.new _ _ _).alloc _
  have B1 : Box ((w.alloc (.cells #[.string ⟨#[]⟩, .string ⟨#[]⟩, .bool false, .slice none 0 0] 32)).alloc (.cells #[.string ⟨#[]⟩, .int .i64 0, .int .i64 0] 34)) (w.heap.size + 1) #[.string ⟨#[]⟩, .int .i64 0, .int .i64 0] := Box.new1 _ _ _ _
  have K0 : Keep w ((w.alloc (.cells #[.string ⟨#[]⟩, .string ⟨#[]⟩, .bool false, .slice none 0 0] 32)).alloc (.cells #[.string ⟨#[]⟩, .int .i64 0, .int .i64 0] 34)) := ((Keep.refl w).alloc _).alloc _
  refine (CL.out _).mono ?_
  intro e w1 h
  unfold LexR at h
  rw [HL.out] at h
  obtain ⟨v, rfl, hown, hk⟩ := h
  have TT := own_toks hown
  have HB0 := Lib.hid ((B0.keep hk).alloc (.cells #[.string ⟨#[]⟩, .int .i64 0, .int .i64 0] 34))
  have HB1 := Lib.hid ((B1.keep hk).alloc (.cells #[.string ⟨#[]⟩, .int .i64 0, .int .i64 0] 34))
  have K1 := Lib.hid ((K0.trans hk).alloc (.cells #[.string ⟨#[]⟩, .int .i64 0, .int .i64 0] 34))
  have KA := Lib.hid ((Keep.refl w1).alloc (.cells #[.string ⟨#[]⟩, .int .i64 0, .int .i64 0] 34))
  have BP := Lib.hid (Box.new1 w1 (.cells #[.string ⟨#[]⟩, .int .i64 0, .int .i64 0] 34) #[.string ⟨#[]⟩, .string ⟨#[]⟩, .bool false, .slice none 0 0] 32)
  have lt : w.heap.size + 1 < w1.heap.size := (B1.keep hk).lt
  have n01 : w.heap.size ≠ w.heap.size + 1 := by omega
  have n10 : w.heap.size + 1 ≠ w.heap.size := by omega
  have n0p : w.heap.size ≠ w1.heap.size + 1 := by omega
  have n1p : w.heap.size + 1 ≠ w1.heap.size + 1 := by omega
  have np0 : w1.heap.size + 1 ≠ w.heap.size := by omega
  have np1 : w1.heap.size + 1 ≠ w.heap.size + 1 := by omega
  have c0 := fun o => (HB0.out.alloc o).cells
  have c1 := fun o => (HB1.out.alloc o).cells
  have f0 := fun o => (HB0.out.alloc o).thawed
  have f1 := fun o => (HB1.out.alloc o).thawed
  have HT1 := Lib.hid TT
  clear hk hown B0 B1 K0
  obtain ⟨p_, cap, rfl, hcap, htk⟩ := TT
  rcases htk with h0 | ⟨b, off, rfl, hb, hcell⟩
  · rw [h0] at ht; simp at ht
  have nb0 : ¬ b = w1.heap.size := by omega
  have nbp : ¬ b = w1.heap.size + 1 := by omega
  obtain ⟨at0, at1, _, _⟩ := hcell 0 t ht
  rw [Nat.zero_mul, Nat.add_zero] at at0 at1
  have dt0 := fun o => (((Keep.refl w1).alloc (.cells #[.string ⟨#[]⟩, .int .i64 0, .int .i64 0] 34)).alloc o).cellOf at0
  have dt1 := fun o => (((Keep.refl w1).alloc (.cells #[.string ⟨#[]⟩, .int .i64 0, .int .i64 0] 34)).alloc o).cellOf at1
  clear at0 at1
  have q1 : ¬ (1 : Int) < (ts.length : Int) := by omega
  unfold okV wrongV
  have q5 : ((ts.length : Int) == 0) = false := beq_eq_false_iff_ne.2 (by omega)
  have q6 : ((0 : Int) == (ts.length : Int)) = false := beq_eq_false_iff_ne.2 (by omega)
  have q7 : (0 : Int) < (ts.length : Int) := by have := (List.getElem?_eq_some_iff.1 ht).1; omega
  have k1 : (t.kind != 1) = true := by simpa using h1
  have k4 : (t.kind != 4) = true := by simpa using h4
  clear hcell
  go_wp2_with (fail)
  refine ret_out (w := w) (base := w.heap.size) (v := .slice none 0 0) (out := []) (b := w.heap.size) (vs := #[.string ⟨#[]⟩, .string ⟨#[]⟩, .bool false, .slice none 0 0]) (c := w.heap.size + 1) (us := #[.string ⟨#[116, 111, 107, 101, 110]⟩, .int .i64 0, .int .i64 11]) ?_ ?_ ?_ ?_ ?_
  · apply Box.conv
    · repeat (first | with_reducible exact HB0.out.alloc _ | with_reducible apply Box.drew | with_reducible apply Box.set | apply Box.past n01 | apply Box.past n0p)
    · rfl
  · apply Box.conv
    · repeat (first | with_reducible exact HB1.out.alloc _ | with_reducible apply Box.drew | with_reducible apply Box.set | apply Box.past n10 | apply Box.past n1p)
    · rfl
  · repeat (first | with_reducible refine Keep.drew ?_ | (with_reducible refine Keep.setAt ?_ ?_ _; · omega))
    exact K1.out.alloc _
  · exact OutAt.nil _ _
  intro W' hB hC hK hO
  have cB := hB.cells
  have cC := hC.cells
  refine bodyPost_ret (v := .tuple #[.agg #[.string ⟨#[]⟩, .string ⟨#[]⟩, .bool false, .slice none 0 0], .agg #[.string ⟨#[116, 111, 107, 101, 110]⟩, .int .i64 0, .int .i64 11]]) (by simp [results, Tryz.results6, go_sem, cB, cC]; done) rfl ⟨ParR.bad HL.out HN.out, hK⟩
set_option maxHeartbeats 2000000 in
set_option maxRecDepth 100000 in
theorem rparse_P1R3 (s : ByteArray) (hs : s.size ≤ 10000) (w : World) {ts : List Tok} (hl : lexL s.data.toList 0 = .ok ts) (t : Tok) (ht : ts[0]? = some t) (e1 : ts.length = 1) (h14 : t.kind = 1 ∨ t.kind = 4) (e3 : ts.length = 1) (hLine : lineL ts = .ok ⟨⟨#[]⟩, t.text, decide (t.kind = 4), []⟩) : Calls Tryz.prog 6 #[.string s] w fun e w' => ParR s.data.toList w e w' ∧ Keep w w' := by
  have HL := Lib.hid hl
  have HN := Lib.hid hLine
  have few : ts.length ≤ 10000 := by have := (lexL_toks _ _ _ _ (Nat.le_refl _) hl).2; simp at this; omega
  have CL := Lib.hid (fun W => rlex_any s (by omega) W)
  clear hl hLine
  go_enter Tryz.func6, Tryz.ntmps6
  go_wp2_with fail
  have B0 : Box ((w.alloc (.cells #[.string ⟨#[]⟩, .string ⟨#[]⟩, .bool false, .slice none 0 0] 32)).alloc (.cells #[.string ⟨#[]⟩, .int .i64 0, .int .i64 0] 34)) w.heap.size #[.string ⟨#[]⟩, .string ⟨#[]⟩, .bool false, .slice none 0 0] := (Box.new _ _ _).alloc _
  have B1 : Box ((w.alloc (.cells #[.string ⟨#[]⟩, .string ⟨#[]⟩, .bool false, .slice none 0 0] 32)).alloc (.cells #[.string ⟨#[]⟩, .int .i64 0, .int .i64 0] 34)) (w.heap.size + 1) #[.string ⟨#[]⟩, .int .i64 0, .int .i64 0] := Box.new1 _ _ _ _
  have K0 : Keep w ((w.alloc (.cells #[.string ⟨#[]⟩, .string ⟨#[]⟩, .bool false, .slice none 0 0] 32)).alloc (.cells #[.string ⟨#[]⟩, .int .i64 0, .int .i64 0] 34)) := ((Keep.refl w).alloc _).alloc _
  refine (CL.out _).mono ?_
  intro e w1 h
  unfold LexR at h
  rw [HL.out] at h
  obtain ⟨v, rfl, hown, hk⟩ := h
  have TT := own_toks hown
  have HB0 := Lib.hid ((B0.keep hk).alloc (.cells #[.string ⟨#[]⟩, .int .i64 0, .int .i64 0] 34))
  have HB1 := Lib.hid ((B1.keep hk).alloc (.cells #[.string ⟨#[]⟩, .int .i64 0, .int .i64 0] 34))
  have K1 := Lib.hid ((K0.trans hk).alloc (.cells #[.string ⟨#[]⟩, .int .i64 0, .int .i64 0] 34))
  have KA := Lib.hid ((Keep.refl w1).alloc (.cells #[.string ⟨#[]⟩, .int .i64 0, .int .i64 0] 34))
  have BP := Lib.hid (Box.new1 w1 (.cells #[.string ⟨#[]⟩, .int .i64 0, .int .i64 0] 34) #[.string ⟨#[]⟩, .string ⟨#[]⟩, .bool false, .slice none 0 0] 32)
  have lt : w.heap.size + 1 < w1.heap.size := (B1.keep hk).lt
  have n01 : w.heap.size ≠ w.heap.size + 1 := by omega
  have n10 : w.heap.size + 1 ≠ w.heap.size := by omega
  have n0p : w.heap.size ≠ w1.heap.size + 1 := by omega
  have n1p : w.heap.size + 1 ≠ w1.heap.size + 1 := by omega
  have np0 : w1.heap.size + 1 ≠ w.heap.size := by omega
  have np1 : w1.heap.size + 1 ≠ w.heap.size + 1 := by omega
  have c0 := fun o => (HB0.out.alloc o).cells
  have c1 := fun o => (HB1.out.alloc o).cells
  have f0 := fun o => (HB0.out.alloc o).thawed
  have f1 := fun o => (HB1.out.alloc o).thawed
  have HT1 := Lib.hid TT
  clear hk hown B0 B1 K0
  obtain ⟨p_, cap, rfl, hcap, htk⟩ := TT
  rcases htk with h0 | ⟨b, off, rfl, hb, hcell⟩
  · rw [h0] at ht; simp at ht
  have nb0 : ¬ b = w1.heap.size := by omega
  have nbp : ¬ b = w1.heap.size + 1 := by omega
  obtain ⟨at0, at1, _, _⟩ := hcell 0 t ht
  rw [Nat.zero_mul, Nat.add_zero] at at0 at1
  have dt0 := fun o => (((Keep.refl w1).alloc (.cells #[.string ⟨#[]⟩, .int .i64 0, .int .i64 0] 34)).alloc o).cellOf at0
  have dt1 := fun o => (((Keep.refl w1).alloc (.cells #[.string ⟨#[]⟩, .int .i64 0, .int .i64 0] 34)).alloc o).cellOf at1
  clear at0 at1
  have q1 : ¬ (1 : Int) < (ts.length : Int) := by omega
  unfold okV wrongV
  have q5 : ((ts.length : Int) == 0) = false := beq_eq_false_iff_ne.2 (by omega)
  have q6 : ((0 : Int) == (ts.length : Int)) = false := beq_eq_false_iff_ne.2 (by omega)
  have q7 : (0 : Int) < (ts.length : Int) := by have := (List.getElem?_eq_some_iff.1 ht).1; omega
  have q8 : ((1 : Int) == (ts.length : Int)) = true := beq_iff_eq.2 (by omega)
  clear hcell
  rcases h14 with h14 | h14
  · have k1 : (t.kind != 1) = false := by rw [h14]; rfl
    have k4 : (t.kind != 4) = true := by rw [h14]; rfl
    have k4b : (t.kind == 4) = false := by rw [h14]; rfl
    have HN2 : Hid (lineL ts = .ok ⟨⟨#[]⟩, t.text, false, []⟩) := Lib.hid (by rw [HN.out, h14]; rfl)
    go_wp2_with (fail)
    refine ret_out (w := w) (base := w.heap.size) (v := .slice none 0 0) (out := []) (b := w.heap.size) (vs := #[.string ⟨#[]⟩, .string t.text, .bool false, .slice none 0 0]) (c := w.heap.size + 1) (us := #[.string ⟨#[]⟩, .int .i64 0, .int .i64 0]) ?_ ?_ ?_ ?_ ?_
    · apply Box.conv
      · repeat (first | with_reducible exact HB0.out.alloc _ | with_reducible apply Box.drew | with_reducible apply Box.set | apply Box.past n01 | apply Box.past n0p)
      · rfl
    · apply Box.conv
      · repeat (first | with_reducible exact HB1.out.alloc _ | with_reducible apply Box.drew | with_reducible apply Box.set | apply Box.past n10 | apply Box.past n1p)
      · rfl
    · repeat (first | with_reducible refine Keep.drew ?_ | (with_reducible refine Keep.setAt ?_ ?_ _; · omega))
      exact K1.out.alloc _
    · exact OutAt.nil _ _
    intro W' hB hC hK hO
    have cB := hB.cells
    have cC := hC.cells
    refine bodyPost_ret (v := .tuple #[.agg #[.string ⟨#[]⟩, .string t.text, .bool false, .slice none 0 0], .agg #[.string ⟨#[]⟩, .int .i64 0, .int .i64 0]]) (by simp [results, Tryz.results6, go_sem, cB, cC]; done) rfl ⟨ParR.ok HL.out HN2.out hO, hK⟩
  · have k1 : (t.kind != 1) = true := by rw [h14]; rfl
    have k4 : (t.kind != 4) = false := by rw [h14]; rfl
    have k4b : (t.kind == 4) = true := by rw [h14]; rfl
    have HN2 : Hid (lineL ts = .ok ⟨⟨#[]⟩, t.text, true, []⟩) := Lib.hid (by rw [HN.out, h14]; rfl)
    go_wp2_with (fail)
    refine ret_out (w := w) (base := w.heap.size) (v := .slice none 0 0) (out := []) (b := w.heap.size) (vs := #[.string ⟨#[]⟩, .string t.text, .bool true, .slice none 0 0]) (c := w.heap.size + 1) (us := #[.string ⟨#[]⟩, .int .i64 0, .int .i64 0]) ?_ ?_ ?_ ?_ ?_
    · apply Box.conv
      · repeat (first | with_reducible exact HB0.out.alloc _ | with_reducible apply Box.drew | with_reducible apply Box.set | apply Box.past n01 | apply Box.past n0p)
      · rfl
    · apply Box.conv
      · repeat (first | with_reducible exact HB1.out.alloc _ | with_reducible apply Box.drew | with_reducible apply Box.set | apply Box.past n10 | apply Box.past n1p)
      · rfl
    · repeat (first | with_reducible refine Keep.drew ?_ | (with_reducible refine Keep.setAt ?_ ?_ _; · omega))
      exact K1.out.alloc _
    · exact OutAt.nil _ _
    intro W' hB hC hK hO
    have cB := hB.cells
    have cC := hC.cells
    refine bodyPost_ret (v := .tuple #[.agg #[.string ⟨#[]⟩, .string t.text, .bool true, .slice none 0 0], .agg #[.string ⟨#[]⟩, .int .i64 0, .int .i64 0]]) (by simp [results, Tryz.results6, go_sem, cB, cC]; done) rfl ⟨ParR.ok HL.out HN2.out hO, hK⟩
set_option maxHeartbeats 2000000 in
set_option maxRecDepth 100000 in
theorem rparse_P2R2 (s : ByteArray) (hs : s.size ≤ 10000) (w : World) {ts : List Tok} (hl : lexL s.data.toList 0 = .ok ts) (t : Tok) (ht : ts[0]? = some t) (e1 : 1 < ts.length) (hk : ¬ t.kind = 1) (h1 : ¬ t.kind = 1) (h4 : ¬ t.kind = 4) (hLine : lineL ts = .error (0, 11)) : Calls Tryz.prog 6 #[.string s] w fun e w' => ParR s.data.toList w e w' ∧ Keep w w' := by
  have HL := Lib.hid hl
  have HN := Lib.hid hLine
  have few : ts.length ≤ 10000 := by have := (lexL_toks _ _ _ _ (Nat.le_refl _) hl).2; simp at this; omega
  have CL := Lib.hid (fun W => rlex_any s (by omega) W)
  clear hl hLine
  go_enter Tryz.func6, Tryz.ntmps6
  go_wp2_with fail
  have B0 : Box ((w.alloc (.cells #[.string ⟨#[]⟩, .string ⟨#[]⟩, .bool false, .slice none 0 0] 32)).alloc (.cells #[.string ⟨#[]⟩, .int .i64 0, .int .i64 0] 34)) w.heap.size #[.string ⟨#[]⟩, .string ⟨#[]⟩, .bool false, .slice none 0 0] := (Box.new _ _ _).alloc _
  have B1 : Box ((w.alloc (.cells #[.string ⟨#[]⟩, .string ⟨#[]⟩, .bool false, .slice none 0 0] 32)).alloc (.cells #[.string ⟨#[]⟩, .int .i64 0, .int .i64 0] 34)) (w.heap.size + 1) #[.string ⟨#[]⟩, .int .i64 0, .int .i64 0] := Box.new1 _ _ _ _
  have K0 : Keep w ((w.alloc (.cells #[.string ⟨#[]⟩, .string ⟨#[]⟩, .bool false, .slice none 0 0] 32)).alloc (.cells #[.string ⟨#[]⟩, .int .i64 0, .int .i64 0] 34)) := ((Keep.refl w).alloc _).alloc _
  refine (CL.out _).mono ?_
  intro e w1 h
  unfold LexR at h
  rw [HL.out] at h
  obtain ⟨v, rfl, hown, hk⟩ := h
  have TT := own_toks hown
  have HB0 := Lib.hid ((B0.keep hk).alloc (.cells #[.string ⟨#[]⟩, .int .i64 0, .int .i64 0] 34))
  have HB1 := Lib.hid ((B1.keep hk).alloc (.cells #[.string ⟨#[]⟩, .int .i64 0, .int .i64 0] 34))
  have K1 := Lib.hid ((K0.trans hk).alloc (.cells #[.string ⟨#[]⟩, .int .i64 0, .int .i64 0] 34))
  have KA := Lib.hid ((Keep.refl w1).alloc (.cells #[.string ⟨#[]⟩, .int .i64 0, .int .i64 0] 34))
  have BP := Lib.hid (Box.new1 w1 (.cells #[.string ⟨#[]⟩, .int .i64 0, .int .i64 0] 34) #[.string ⟨#[]⟩, .string ⟨#[]⟩, .bool false, .slice none 0 0] 32)
  have lt : w.heap.size + 1 < w1.heap.size := (B1.keep hk).lt
  have n01 : w.heap.size ≠ w.heap.size + 1 := by omega
  have n10 : w.heap.size + 1 ≠ w.heap.size := by omega
  have n0p : w.heap.size ≠ w1.heap.size + 1 := by omega
  have n1p : w.heap.size + 1 ≠ w1.heap.size + 1 := by omega
  have np0 : w1.heap.size + 1 ≠ w.heap.size := by omega
  have np1 : w1.heap.size + 1 ≠ w.heap.size + 1 := by omega
  have c0 := fun o => (HB0.out.alloc o).cells
  have c1 := fun o => (HB1.out.alloc o).cells
  have f0 := fun o => (HB0.out.alloc o).thawed
  have f1 := fun o => (HB1.out.alloc o).thawed
  have HT1 := Lib.hid TT
  clear hk hown B0 B1 K0
  obtain ⟨p_, cap, rfl, hcap, htk⟩ := TT
  rcases htk with h0 | ⟨b, off, rfl, hb, hcell⟩
  · rw [h0] at ht; simp at ht
  have nb0 : ¬ b = w1.heap.size := by omega
  have nbp : ¬ b = w1.heap.size + 1 := by omega
  obtain ⟨at0, at1, _, _⟩ := hcell 0 t ht
  rw [Nat.zero_mul, Nat.add_zero] at at0 at1
  have dt0 := fun o => (((Keep.refl w1).alloc (.cells #[.string ⟨#[]⟩, .int .i64 0, .int .i64 0] 34)).alloc o).cellOf at0
  have dt1 := fun o => (((Keep.refl w1).alloc (.cells #[.string ⟨#[]⟩, .int .i64 0, .int .i64 0] 34)).alloc o).cellOf at1
  clear at0 at1
  have q1 : (1 : Int) < (ts.length : Int) := by omega
  have q2 : (t.kind == 1) = false := by simpa using hk
  unfold okV wrongV
  have q5 : ((ts.length : Int) == 0) = false := beq_eq_false_iff_ne.2 (by omega)
  have q6 : ((0 : Int) == (ts.length : Int)) = false := beq_eq_false_iff_ne.2 (by omega)
  have q7 : (0 : Int) < (ts.length : Int) := by have := (List.getElem?_eq_some_iff.1 ht).1; omega
  have k1 : (t.kind != 1) = true := by simpa using h1
  have k4 : (t.kind != 4) = true := by simpa using h4
  clear hcell
  go_wp2_with (fail)
  refine ret_out (w := w) (base := w.heap.size) (v := .slice none 0 0) (out := []) (b := w.heap.size) (vs := #[.string ⟨#[]⟩, .string ⟨#[]⟩, .bool false, .slice none 0 0]) (c := w.heap.size + 1) (us := #[.string ⟨#[116, 111, 107, 101, 110]⟩, .int .i64 0, .int .i64 11]) ?_ ?_ ?_ ?_ ?_
  · apply Box.conv
    · repeat (first | with_reducible exact HB0.out.alloc _ | with_reducible apply Box.drew | with_reducible apply Box.set | apply Box.past n01 | apply Box.past n0p)
    · rfl
  · apply Box.conv
    · repeat (first | with_reducible exact HB1.out.alloc _ | with_reducible apply Box.drew | with_reducible apply Box.set | apply Box.past n10 | apply Box.past n1p)
    · rfl
  · repeat (first | with_reducible refine Keep.drew ?_ | (with_reducible refine Keep.setAt ?_ ?_ _; · omega))
    exact K1.out.alloc _
  · exact OutAt.nil _ _
  intro W' hB hC hK hO
  have cB := hB.cells
  have cC := hC.cells
  refine bodyPost_ret (v := .tuple #[.agg #[.string ⟨#[]⟩, .string ⟨#[]⟩, .bool false, .slice none 0 0], .agg #[.string ⟨#[116, 111, 107, 101, 110]⟩, .int .i64 0, .int .i64 11]]) (by simp [results, Tryz.results6, go_sem, cB, cC]; done) rfl ⟨ParR.bad HL.out HN.out, hK⟩
set_option maxHeartbeats 2000000 in
set_option maxRecDepth 100000 in
theorem rparse_P2R4 (s : ByteArray) (hs : s.size ≤ 10000) (w : World) {ts : List Tok} (hl : lexL s.data.toList 0 = .ok ts) (t : Tok) (ht : ts[0]? = some t) (e1 : 1 < ts.length) (hk : ¬ t.kind = 1) (h14 : t.kind = 1 ∨ t.kind = 4) (e3 : 1 < ts.length) (p : Nat) (ho : opsL (ts.drop 1) 1 [] [] 0 = .error p) (hLine : lineL ts = .error (p, 11)) : Calls Tryz.prog 6 #[.string s] w fun e w' => ParR s.data.toList w e w' ∧ Keep w w' := by
  have HL := Lib.hid hl
  have HN := Lib.hid hLine
  have few : ts.length ≤ 10000 := by have := (lexL_toks _ _ _ _ (Nat.le_refl _) hl).2; simp at this; omega
  have CL := Lib.hid (fun W => rlex_any s (by omega) W)
  clear hl hLine
  go_enter Tryz.func6, Tryz.ntmps6
  go_wp2_with fail
  have B0 : Box ((w.alloc (.cells #[.string ⟨#[]⟩, .string ⟨#[]⟩, .bool false, .slice none 0 0] 32)).alloc (.cells #[.string ⟨#[]⟩, .int .i64 0, .int .i64 0] 34)) w.heap.size #[.string ⟨#[]⟩, .string ⟨#[]⟩, .bool false, .slice none 0 0] := (Box.new _ _ _).alloc _
  have B1 : Box ((w.alloc (.cells #[.string ⟨#[]⟩, .string ⟨#[]⟩, .bool false, .slice none 0 0] 32)).alloc (.cells #[.string ⟨#[]⟩, .int .i64 0, .int .i64 0] 34)) (w.heap.size + 1) #[.string ⟨#[]⟩, .int .i64 0, .int .i64 0] := Box.new1 _ _ _ _
  have K0 : Keep w ((w.alloc (.cells #[.string ⟨#[]⟩, .string ⟨#[]⟩, .bool false, .slice none 0 0] 32)).alloc (.cells #[.string ⟨#[]⟩, .int .i64 0, .int .i64 0] 34)) := ((Keep.refl w).alloc _).alloc _
  refine (CL.out _).mono ?_
  intro e w1 h
  unfold LexR at h
  rw [HL.out] at h
  obtain ⟨v, rfl, hown, hk⟩ := h
  have TT := own_toks hown
  have HB0 := Lib.hid ((B0.keep hk).alloc (.cells #[.string ⟨#[]⟩, .int .i64 0, .int .i64 0] 34))
  have HB1 := Lib.hid ((B1.keep hk).alloc (.cells #[.string ⟨#[]⟩, .int .i64 0, .int .i64 0] 34))
  have K1 := Lib.hid ((K0.trans hk).alloc (.cells #[.string ⟨#[]⟩, .int .i64 0, .int .i64 0] 34))
  have KA := Lib.hid ((Keep.refl w1).alloc (.cells #[.string ⟨#[]⟩, .int .i64 0, .int .i64 0] 34))
  have BP := Lib.hid (Box.new1 w1 (.cells #[.string ⟨#[]⟩, .int .i64 0, .int .i64 0] 34) #[.string ⟨#[]⟩, .string ⟨#[]⟩, .bool false, .slice none 0 0] 32)
  have lt : w.heap.size + 1 < w1.heap.size := (B1.keep hk).lt
  have n01 : w.heap.size ≠ w.heap.size + 1 := by omega
  have n10 : w.heap.size + 1 ≠ w.heap.size := by omega
  have n0p : w.heap.size ≠ w1.heap.size + 1 := by omega
  have n1p : w.heap.size + 1 ≠ w1.heap.size + 1 := by omega
  have np0 : w1.heap.size + 1 ≠ w.heap.size := by omega
  have np1 : w1.heap.size + 1 ≠ w.heap.size + 1 := by omega
  have c0 := fun o => (HB0.out.alloc o).cells
  have c1 := fun o => (HB1.out.alloc o).cells
  have f0 := fun o => (HB0.out.alloc o).thawed
  have f1 := fun o => (HB1.out.alloc o).thawed
  have HT1 := Lib.hid TT
  clear hk hown B0 B1 K0
  obtain ⟨p_, cap, rfl, hcap, htk⟩ := TT
  rcases htk with h0 | ⟨b, off, rfl, hb, hcell⟩
  · rw [h0] at ht; simp at ht
  have nb0 : ¬ b = w1.heap.size := by omega
  have nbp : ¬ b = w1.heap.size + 1 := by omega
  obtain ⟨at0, at1, _, _⟩ := hcell 0 t ht
  rw [Nat.zero_mul, Nat.add_zero] at at0 at1
  have dt0 := fun o => (((Keep.refl w1).alloc (.cells #[.string ⟨#[]⟩, .int .i64 0, .int .i64 0] 34)).alloc o).cellOf at0
  have dt1 := fun o => (((Keep.refl w1).alloc (.cells #[.string ⟨#[]⟩, .int .i64 0, .int .i64 0] 34)).alloc o).cellOf at1
  clear at0 at1
  have q1 : (1 : Int) < (ts.length : Int) := by omega
  have q2 : (t.kind == 1) = false := by simpa using hk
  unfold okV wrongV
  have q5 : ((ts.length : Int) == 0) = false := beq_eq_false_iff_ne.2 (by omega)
  have q6 : ((0 : Int) == (ts.length : Int)) = false := beq_eq_false_iff_ne.2 (by omega)
  have q7 : (0 : Int) < (ts.length : Int) := by have := (List.getElem?_eq_some_iff.1 ht).1; omega
  have q8 : ((1 : Int) == (ts.length : Int)) = false := beq_eq_false_iff_ne.2 (by omega)
  clear hcell
  rcases h14 with h14 | h14
  · exfalso; omega
  · have k1 : (t.kind != 1) = true := by rw [h14]; rfl
    have k4 : (t.kind != 4) = false := by rw [h14]; rfl
    have k4b : (t.kind == 4) = true := by rw [h14]; rfl
    have HN2 := HN
    go_wp2_with (fail)
    refine calls_past (w := w) (w1 := w1) (b := w.heap.size) (vs := #[.string ⟨#[]⟩, .string ⟨#[]⟩, .bool false, .slice none 0 0]) (c := w.heap.size + 1) (us := #[.string ⟨#[]⟩, .int .i64 0, .int .i64 0]) (d := w1.heap.size + 1) (ts := #[.string ⟨#[]⟩, .string t.text, .bool true, .slice none 0 0]) ?_ ?_ ?_ ?_ ?_ ?_
    · apply Box.conv
      · repeat (first | with_reducible exact HB0.out.alloc _ | with_reducible apply Box.drew | with_reducible apply Box.set | apply Box.past n0p)
      · rfl
    · apply Box.conv
      · repeat (first | with_reducible exact HB1.out.alloc _ | with_reducible apply Box.drew | with_reducible apply Box.set | apply Box.past n1p)
      · rfl
    · apply Box.conv
      · repeat (first | with_reducible exact Box.new1 _ _ _ _ | with_reducible apply Box.drew | with_reducible apply Box.set | apply Box.past np0)
      · rfl
    · repeat (first | with_reducible refine Keep.drew ?_ | (with_reducible refine Keep.setAt ?_ ?_ _; · omega))
      exact K1.out.alloc _
    · repeat (first | with_reducible refine Keep.drew ?_ | (with_reducible refine Keep.setAt ?_ ?_ _; · omega))
      exact KA.out.alloc _
    intro W3 D0 D1 DP E0 E1
    refine (roperands_any _ ts (by omega) 1 (by omega) W3 (HT1.out.keep E1)).mono ?_
    rintro e w4 ⟨hop, hk4⟩
    unfold OpsR at hop
    rw [ho] at hop
    subst hop
    have M0 := Lib.hid (D0.keep hk4)
    have M1 := Lib.hid (D1.keep hk4)
    have MP := Lib.hid (DP.keep hk4)
    have K4 := Lib.hid (E0.trans hk4)
    have l3 : w1.heap.size + 1 < W3.heap.size := DP.lt
    have l4 : w.heap.size ≤ W3.heap.size := E0.size
    have m0 := M0.out.cells
    have m1 := M1.out.cells
    have mp := MP.out.cells
    have g0 := M0.out.thawed
    have g1 := M1.out.thawed
    have gp := MP.out.thawed
    clear hk4 D0 D1 DP E0 E1
    go_wp2_with fail
    refine ret_out (w := w) (base := w.heap.size) (v := .slice none 0 0) (out := []) (b := w.heap.size) (vs := #[.string ⟨#[]⟩, .string ⟨#[]⟩, .bool false, .slice none 0 0]) (c := w.heap.size + 1) (us := #[.string ⟨#[116, 111, 107, 101, 110]⟩, .int .i64 p, .int .i64 11]) ?_ ?_ ?_ ?_ ?_
    · apply Box.conv
      · repeat (first | with_reducible exact M0.out | with_reducible apply Box.drew | with_reducible apply Box.set | apply Box.past n01 | apply Box.past n0p)
      · rfl
    · apply Box.conv
      · repeat (first | with_reducible exact M1.out | with_reducible apply Box.drew | with_reducible apply Box.set | apply Box.past n10 | apply Box.past n1p)
      · rfl
    · repeat (first | with_reducible refine Keep.drew ?_ | (with_reducible refine Keep.setAt ?_ ?_ _; · omega))
      exact K4.out
    · exact OutAt.nil _ _
    intro W' hB hC hK hO
    have cB := hB.cells
    have cC := hC.cells
    refine bodyPost_ret (v := .tuple #[.agg #[.string ⟨#[]⟩, .string ⟨#[]⟩, .bool false, .slice none 0 0], .agg #[.string ⟨#[116, 111, 107, 101, 110]⟩, .int .i64 p, .int .i64 11]]) (by simp [results, Tryz.results6, go_sem, cB, cC]; done) rfl ⟨ParR.bad HL.out HN2.out, hK⟩
set_option maxHeartbeats 2000000 in
set_option maxRecDepth 100000 in
theorem rparse_P2R5 (s : ByteArray) (hs : s.size ≤ 10000) (w : World) {ts : List Tok} (hl : lexL s.data.toList 0 = .ok ts) (t : Tok) (ht : ts[0]? = some t) (e1 : 1 < ts.length) (hk : ¬ t.kind = 1) (h14 : t.kind = 1 ∨ t.kind = 4) (e3 : 1 < ts.length) (out : List (List Tok)) (ho : opsL (ts.drop 1) 1 [] [] 0 = .ok out) (hLine : lineL ts = .ok ⟨⟨#[]⟩, t.text, decide (t.kind = 4), out⟩) : Calls Tryz.prog 6 #[.string s] w fun e w' => ParR s.data.toList w e w' ∧ Keep w w' := by
  have HL := Lib.hid hl
  have HN := Lib.hid hLine
  have few : ts.length ≤ 10000 := by have := (lexL_toks _ _ _ _ (Nat.le_refl _) hl).2; simp at this; omega
  have CL := Lib.hid (fun W => rlex_any s (by omega) W)
  clear hl hLine
  go_enter Tryz.func6, Tryz.ntmps6
  go_wp2_with fail
  have B0 : Box ((w.alloc (.cells #[.string ⟨#[]⟩, .string ⟨#[]⟩, .bool false, .slice none 0 0] 32)).alloc (.cells #[.string ⟨#[]⟩, .int .i64 0, .int .i64 0] 34)) w.heap.size #[.string ⟨#[]⟩, .string ⟨#[]⟩, .bool false, .slice none 0 0] := (Box.new _ _ _).alloc _
  have B1 : Box ((w.alloc (.cells #[.string ⟨#[]⟩, .string ⟨#[]⟩, .bool false, .slice none 0 0] 32)).alloc (.cells #[.string ⟨#[]⟩, .int .i64 0, .int .i64 0] 34)) (w.heap.size + 1) #[.string ⟨#[]⟩, .int .i64 0, .int .i64 0] := Box.new1 _ _ _ _
  have K0 : Keep w ((w.alloc (.cells #[.string ⟨#[]⟩, .string ⟨#[]⟩, .bool false, .slice none 0 0] 32)).alloc (.cells #[.string ⟨#[]⟩, .int .i64 0, .int .i64 0] 34)) := ((Keep.refl w).alloc _).alloc _
  refine (CL.out _).mono ?_
  intro e w1 h
  unfold LexR at h
  rw [HL.out] at h
  obtain ⟨v, rfl, hown, hk⟩ := h
  have TT := own_toks hown
  have HB0 := Lib.hid ((B0.keep hk).alloc (.cells #[.string ⟨#[]⟩, .int .i64 0, .int .i64 0] 34))
  have HB1 := Lib.hid ((B1.keep hk).alloc (.cells #[.string ⟨#[]⟩, .int .i64 0, .int .i64 0] 34))
  have K1 := Lib.hid ((K0.trans hk).alloc (.cells #[.string ⟨#[]⟩, .int .i64 0, .int .i64 0] 34))
  have KA := Lib.hid ((Keep.refl w1).alloc (.cells #[.string ⟨#[]⟩, .int .i64 0, .int .i64 0] 34))
  have BP := Lib.hid (Box.new1 w1 (.cells #[.string ⟨#[]⟩, .int .i64 0, .int .i64 0] 34) #[.string ⟨#[]⟩, .string ⟨#[]⟩, .bool false, .slice none 0 0] 32)
  have lt : w.heap.size + 1 < w1.heap.size := (B1.keep hk).lt
  have n01 : w.heap.size ≠ w.heap.size + 1 := by omega
  have n10 : w.heap.size + 1 ≠ w.heap.size := by omega
  have n0p : w.heap.size ≠ w1.heap.size + 1 := by omega
  have n1p : w.heap.size + 1 ≠ w1.heap.size + 1 := by omega
  have np0 : w1.heap.size + 1 ≠ w.heap.size := by omega
  have np1 : w1.heap.size + 1 ≠ w.heap.size + 1 := by omega
  have c0 := fun o => (HB0.out.alloc o).cells
  have c1 := fun o => (HB1.out.alloc o).cells
  have f0 := fun o => (HB0.out.alloc o).thawed
  have f1 := fun o => (HB1.out.alloc o).thawed
  have HT1 := Lib.hid TT
  clear hk hown B0 B1 K0
  obtain ⟨p_, cap, rfl, hcap, htk⟩ := TT
  rcases htk with h0 | ⟨b, off, rfl, hb, hcell⟩
  · rw [h0] at ht; simp at ht
  have nb0 : ¬ b = w1.heap.size := by omega
  have nbp : ¬ b = w1.heap.size + 1 := by omega
  obtain ⟨at0, at1, _, _⟩ := hcell 0 t ht
  rw [Nat.zero_mul, Nat.add_zero] at at0 at1
  have dt0 := fun o => (((Keep.refl w1).alloc (.cells #[.string ⟨#[]⟩, .int .i64 0, .int .i64 0] 34)).alloc o).cellOf at0
  have dt1 := fun o => (((Keep.refl w1).alloc (.cells #[.string ⟨#[]⟩, .int .i64 0, .int .i64 0] 34)).alloc o).cellOf at1
  clear at0 at1
  have q1 : (1 : Int) < (ts.length : Int) := by omega
  have q2 : (t.kind == 1) = false := by simpa using hk
  unfold okV wrongV
  have q5 : ((ts.length : Int) == 0) = false := beq_eq_false_iff_ne.2 (by omega)
  have q6 : ((0 : Int) == (ts.length : Int)) = false := beq_eq_false_iff_ne.2 (by omega)
  have q7 : (0 : Int) < (ts.length : Int) := by have := (List.getElem?_eq_some_iff.1 ht).1; omega
  have q8 : ((1 : Int) == (ts.length : Int)) = false := beq_eq_false_iff_ne.2 (by omega)
  clear hcell
  rcases h14 with h14 | h14
  · exfalso; omega
  · have k1 : (t.kind != 1) = true := by rw [h14]; rfl
    have k4 : (t.kind != 4) = false := by rw [h14]; rfl
    have k4b : (t.kind == 4) = true := by rw [h14]; rfl
    have HN2 : Hid (lineL ts = .ok ⟨⟨#[]⟩, t.text, true, out⟩) := Lib.hid (by rw [HN.out, h14]; rfl)
    go_wp2_with (fail)
    refine calls_past (w := w) (w1 := w1) (b := w.heap.size) (vs := #[.string ⟨#[]⟩, .string ⟨#[]⟩, .bool false, .slice none 0 0]) (c := w.heap.size + 1) (us := #[.string ⟨#[]⟩, .int .i64 0, .int .i64 0]) (d := w1.heap.size + 1) (ts := #[.string ⟨#[]⟩, .string t.text, .bool true, .slice none 0 0]) ?_ ?_ ?_ ?_ ?_ ?_
    · apply Box.conv
      · repeat (first | with_reducible exact HB0.out.alloc _ | with_reducible apply Box.drew | with_reducible apply Box.set | apply Box.past n0p)
      · rfl
    · apply Box.conv
      · repeat (first | with_reducible exact HB1.out.alloc _ | with_reducible apply Box.drew | with_reducible apply Box.set | apply Box.past n1p)
      · rfl
    · apply Box.conv
      · repeat (first | with_reducible exact Box.new1 _ _ _ _ | with_reducible apply Box.drew | with_reducible apply Box.set | apply Box.past np0)
      · rfl
    · repeat (first | with_reducible refine Keep.drew ?_ | (with_reducible refine Keep.setAt ?_ ?_ _; · omega))
      exact K1.out.alloc _
    · repeat (first | with_reducible refine Keep.drew ?_ | (with_reducible refine Keep.setAt ?_ ?_ _; · omega))
      exact KA.out.alloc _
    intro W3 D0 D1 DP E0 E1
    refine (roperands_any _ ts (by omega) 1 (by omega) W3 (HT1.out.keep E1)).mono ?_
    rintro e w4 ⟨hop, hk4⟩
    unfold OpsR at hop
    rw [ho] at hop
    obtain ⟨v5, rfl, hO5⟩ := hop
    obtain ⟨po, co, rfl⟩ := OutAt.slice hO5
    have OUT := Lib.hid hO5
    have M0 := Lib.hid (D0.keep hk4)
    have M1 := Lib.hid (D1.keep hk4)
    have MP := Lib.hid (DP.keep hk4)
    have K4 := Lib.hid (E0.trans hk4)
    have l3 : w1.heap.size + 1 < W3.heap.size := DP.lt
    have l4 : w.heap.size ≤ W3.heap.size := E0.size
    have m0 := M0.out.cells
    have m1 := M1.out.cells
    have mp := MP.out.cells
    have g0 := M0.out.thawed
    have g1 := M1.out.thawed
    have gp := MP.out.thawed
    clear hk4 D0 D1 DP E0 E1 hO5
    unfold mOne
    go_wp2_with fail
    refine ret_out (w := w) (base := W3.heap.size) (v := (.slice po out.length co)) (out := out) (b := w.heap.size) (vs := #[.string ⟨#[]⟩, .string t.text, .bool true, .slice po out.length co]) (c := w.heap.size + 1) (us := #[.string ⟨#[]⟩, .int .i64 0, .int .i64 0]) ?_ ?_ ?_ ?_ ?_
    · apply Box.conv
      · repeat (first | with_reducible exact M0.out | with_reducible apply Box.drew | with_reducible apply Box.set | apply Box.past n01 | apply Box.past n0p)
      · rfl
    · apply Box.conv
      · repeat (first | with_reducible exact M1.out | with_reducible apply Box.drew | with_reducible apply Box.set | apply Box.past n10 | apply Box.past n1p)
      · rfl
    · repeat (first | with_reducible refine Keep.drew ?_ | (with_reducible refine Keep.setAt ?_ ?_ _; · omega))
      exact K4.out
    · repeat (first | with_reducible refine OutAt.dr ?_ | (with_reducible refine OutAt.setOld ?_ ?_ _; rotate_left; · omega))
      exact OUT.out
    intro W' hB hC hK hO
    have cB := hB.cells
    have cC := hC.cells
    refine bodyPost_ret (v := .tuple #[.agg #[.string ⟨#[]⟩, .string t.text, .bool true, .slice po out.length co], .agg #[.string ⟨#[]⟩, .int .i64 0, .int .i64 0]]) (by simp [results, Tryz.results6, go_sem, cB, cC]; done) rfl ⟨ParR.ok HL.out HN2.out (OutAt.base hO l4), hK⟩
set_option maxHeartbeats 2000000 in
set_option maxRecDepth 100000 in
theorem rparse_P3R4 (s : ByteArray) (hs : s.size ≤ 10000) (w : World) {ts : List Tok} (hl : lexL s.data.toList 0 = .ok ts) (t : Tok) (ht : ts[0]? = some t) (e1 : 1 < ts.length) (hk : t.kind = 1) (hc : isSg ts 1 sColon = false) (h14 : t.kind = 1 ∨ t.kind = 4) (e3 : 1 < ts.length) (p : Nat) (ho : opsL (ts.drop 1) 1 [] [] 0 = .error p) (hLine : lineL ts = .error (p, 11)) : Calls Tryz.prog 6 #[.string s] w fun e w' => ParR s.data.toList w e w' ∧ Keep w w' := by
  have HL := Lib.hid hl
  have HN := Lib.hid hLine
  have few : ts.length ≤ 10000 := by have := (lexL_toks _ _ _ _ (Nat.le_refl _) hl).2; simp at this; omega
  have CL := Lib.hid (fun W => rlex_any s (by omega) W)
  clear hl hLine
  go_enter Tryz.func6, Tryz.ntmps6
  go_wp2_with fail
  have B0 : Box ((w.alloc (.cells #[.string ⟨#[]⟩, .string ⟨#[]⟩, .bool false, .slice none 0 0] 32)).alloc (.cells #[.string ⟨#[]⟩, .int .i64 0, .int .i64 0] 34)) w.heap.size #[.string ⟨#[]⟩, .string ⟨#[]⟩, .bool false, .slice none 0 0] := (Box.new _ _ _).alloc _
  have B1 : Box ((w.alloc (.cells #[.string ⟨#[]⟩, .string ⟨#[]⟩, .bool false, .slice none 0 0] 32)).alloc (.cells #[.string ⟨#[]⟩, .int .i64 0, .int .i64 0] 34)) (w.heap.size + 1) #[.string ⟨#[]⟩, .int .i64 0, .int .i64 0] := Box.new1 _ _ _ _
  have K0 : Keep w ((w.alloc (.cells #[.string ⟨#[]⟩, .string ⟨#[]⟩, .bool false, .slice none 0 0] 32)).alloc (.cells #[.string ⟨#[]⟩, .int .i64 0, .int .i64 0] 34)) := ((Keep.refl w).alloc _).alloc _
  refine (CL.out _).mono ?_
  intro e w1 h
  unfold LexR at h
  rw [HL.out] at h
  obtain ⟨v, rfl, hown, hk⟩ := h
  have TT := own_toks hown
  have HB0 := Lib.hid ((B0.keep hk).alloc (.cells #[.string ⟨#[]⟩, .int .i64 0, .int .i64 0] 34))
  have HB1 := Lib.hid ((B1.keep hk).alloc (.cells #[.string ⟨#[]⟩, .int .i64 0, .int .i64 0] 34))
  have K1 := Lib.hid ((K0.trans hk).alloc (.cells #[.string ⟨#[]⟩, .int .i64 0, .int .i64 0] 34))
  have KA := Lib.hid ((Keep.refl w1).alloc (.cells #[.string ⟨#[]⟩, .int .i64 0, .int .i64 0] 34))
  have BP := Lib.hid (Box.new1 w1 (.cells #[.string ⟨#[]⟩, .int .i64 0, .int .i64 0] 34) #[.string ⟨#[]⟩, .string ⟨#[]⟩, .bool false, .slice none 0 0] 32)
  have lt : w.heap.size + 1 < w1.heap.size := (B1.keep hk).lt
  have n01 : w.heap.size ≠ w.heap.size + 1 := by omega
  have n10 : w.heap.size + 1 ≠ w.heap.size := by omega
  have n0p : w.heap.size ≠ w1.heap.size + 1 := by omega
  have n1p : w.heap.size + 1 ≠ w1.heap.size + 1 := by omega
  have np0 : w1.heap.size + 1 ≠ w.heap.size := by omega
  have np1 : w1.heap.size + 1 ≠ w.heap.size + 1 := by omega
  have c0 := fun o => (HB0.out.alloc o).cells
  have c1 := fun o => (HB1.out.alloc o).cells
  have f0 := fun o => (HB0.out.alloc o).thawed
  have f1 := fun o => (HB1.out.alloc o).thawed
  have HT1 := Lib.hid TT
  clear hk hown B0 B1 K0
  obtain ⟨p_, cap, rfl, hcap, htk⟩ := TT
  rcases htk with h0 | ⟨b, off, rfl, hb, hcell⟩
  · rw [h0] at ht; simp at ht
  have nb0 : ¬ b = w1.heap.size := by omega
  have nbp : ¬ b = w1.heap.size + 1 := by omega
  obtain ⟨at0, at1, _, _⟩ := hcell 0 t ht
  rw [Nat.zero_mul, Nat.add_zero] at at0 at1
  have dt0 := fun o => (((Keep.refl w1).alloc (.cells #[.string ⟨#[]⟩, .int .i64 0, .int .i64 0] 34)).alloc o).cellOf at0
  have dt1 := fun o => (((Keep.refl w1).alloc (.cells #[.string ⟨#[]⟩, .int .i64 0, .int .i64 0] 34)).alloc o).cellOf at1
  clear at0 at1
  have q1 : (1 : Int) < (ts.length : Int) := by omega
  have q2 : (t.kind == 1) = true := by simpa using hk
  have CI := Lib.hid (fun W h => ris_any (.slice (some ⟨b, off, none⟩) ts.length cap) ts (by omega) 1 1 rfl sColon W h)
  rw [hc] at CI
  unfold sColon at CI
  unfold okV wrongV
  have q5 : ((ts.length : Int) == 0) = false := beq_eq_false_iff_ne.2 (by omega)
  have q6 : ((0 : Int) == (ts.length : Int)) = false := beq_eq_false_iff_ne.2 (by omega)
  have q7 : (0 : Int) < (ts.length : Int) := by have := (List.getElem?_eq_some_iff.1 ht).1; omega
  have q8 : ((1 : Int) == (ts.length : Int)) = false := beq_eq_false_iff_ne.2 (by omega)
  clear hcell
  rcases h14 with h14 | h14
  · have k1 : (t.kind != 1) = false := by rw [h14]; rfl
    have k4 : (t.kind != 4) = true := by rw [h14]; rfl
    have k4b : (t.kind == 4) = false := by rw [h14]; rfl
    have HN2 := HN
    go_wp2_with ((with_reducible refine (CI.out _ (HT1.out.keep (KA.out.alloc _))).mono ?_); rintro e w' ⟨rfl, rfl⟩)
    refine calls_past (w := w) (w1 := w1) (b := w.heap.size) (vs := #[.string ⟨#[]⟩, .string ⟨#[]⟩, .bool false, .slice none 0 0]) (c := w.heap.size + 1) (us := #[.string ⟨#[]⟩, .int .i64 0, .int .i64 0]) (d := w1.heap.size + 1) (ts := #[.string ⟨#[]⟩, .string t.text, .bool false, .slice none 0 0]) ?_ ?_ ?_ ?_ ?_ ?_
    · apply Box.conv
      · repeat (first | with_reducible exact HB0.out.alloc _ | with_reducible apply Box.drew | with_reducible apply Box.set | apply Box.past n0p)
      · rfl
    · apply Box.conv
      · repeat (first | with_reducible exact HB1.out.alloc _ | with_reducible apply Box.drew | with_reducible apply Box.set | apply Box.past n1p)
      · rfl
    · apply Box.conv
      · repeat (first | with_reducible exact Box.new1 _ _ _ _ | with_reducible apply Box.drew | with_reducible apply Box.set | apply Box.past np0)
      · rfl
    · repeat (first | with_reducible refine Keep.drew ?_ | (with_reducible refine Keep.setAt ?_ ?_ _; · omega))
      exact K1.out.alloc _
    · repeat (first | with_reducible refine Keep.drew ?_ | (with_reducible refine Keep.setAt ?_ ?_ _; · omega))
      exact KA.out.alloc _
    intro W3 D0 D1 DP E0 E1
    refine (roperands_any _ ts (by omega) 1 (by omega) W3 (HT1.out.keep E1)).mono ?_
    rintro e w4 ⟨hop, hk4⟩
    unfold OpsR at hop
    rw [ho] at hop
    subst hop
    have M0 := Lib.hid (D0.keep hk4)
    have M1 := Lib.hid (D1.keep hk4)
    have MP := Lib.hid (DP.keep hk4)
    have K4 := Lib.hid (E0.trans hk4)
    have l3 : w1.heap.size + 1 < W3.heap.size := DP.lt
    have l4 : w.heap.size ≤ W3.heap.size := E0.size
    have m0 := M0.out.cells
    have m1 := M1.out.cells
    have mp := MP.out.cells
    have g0 := M0.out.thawed
    have g1 := M1.out.thawed
    have gp := MP.out.thawed
    clear hk4 D0 D1 DP E0 E1
    go_wp2_with fail
    refine ret_out (w := w) (base := w.heap.size) (v := .slice none 0 0) (out := []) (b := w.heap.size) (vs := #[.string ⟨#[]⟩, .string ⟨#[]⟩, .bool false, .slice none 0 0]) (c := w.heap.size + 1) (us := #[.string ⟨#[116, 111, 107, 101, 110]⟩, .int .i64 p, .int .i64 11]) ?_ ?_ ?_ ?_ ?_
    · apply Box.conv
      · repeat (first | with_reducible exact M0.out | with_reducible apply Box.drew | with_reducible apply Box.set | apply Box.past n01 | apply Box.past n0p)
      · rfl
    · apply Box.conv
      · repeat (first | with_reducible exact M1.out | with_reducible apply Box.drew | with_reducible apply Box.set | apply Box.past n10 | apply Box.past n1p)
      · rfl
    · repeat (first | with_reducible refine Keep.drew ?_ | (with_reducible refine Keep.setAt ?_ ?_ _; · omega))
      exact K4.out
    · exact OutAt.nil _ _
    intro W' hB hC hK hO
    have cB := hB.cells
    have cC := hC.cells
    refine bodyPost_ret (v := .tuple #[.agg #[.string ⟨#[]⟩, .string ⟨#[]⟩, .bool false, .slice none 0 0], .agg #[.string ⟨#[116, 111, 107, 101, 110]⟩, .int .i64 p, .int .i64 11]]) (by simp [results, Tryz.results6, go_sem, cB, cC]; done) rfl ⟨ParR.bad HL.out HN2.out, hK⟩
  · exfalso; omega
set_option maxHeartbeats 2000000 in
set_option maxRecDepth 100000 in
theorem rparse_P3R5 (s : ByteArray) (hs : s.size ≤ 10000) (w : World) {ts : List Tok} (hl : lexL s.data.toList 0 = .ok ts) (t : Tok) (ht : ts[0]? = some t) (e1 : 1 < ts.length) (hk : t.kind = 1) (hc : isSg ts 1 sColon = false) (h14 : t.kind = 1 ∨ t.kind = 4) (e3 : 1 < ts.length) (out : List (List Tok)) (ho : opsL (ts.drop 1) 1 [] [] 0 = .ok out) (hLine : lineL ts = .ok ⟨⟨#[]⟩, t.text, decide (t.kind = 4), out⟩) : Calls Tryz.prog 6 #[.string s] w fun e w' => ParR s.data.toList w e w' ∧ Keep w w' := by
  have HL := Lib.hid hl
  have HN := Lib.hid hLine
  have few : ts.length ≤ 10000 := by have := (lexL_toks _ _ _ _ (Nat.le_refl _) hl).2; simp at this; omega
  have CL := Lib.hid (fun W => rlex_any s (by omega) W)
  clear hl hLine
  go_enter Tryz.func6, Tryz.ntmps6
  go_wp2_with fail
  have B0 : Box ((w.alloc (.cells #[.string ⟨#[]⟩, .string ⟨#[]⟩, .bool false, .slice none 0 0] 32)).alloc (.cells #[.string ⟨#[]⟩, .int .i64 0, .int .i64 0] 34)) w.heap.size #[.string ⟨#[]⟩, .string ⟨#[]⟩, .bool false, .slice none 0 0] := (Box.new _ _ _).alloc _
  have B1 : Box ((w.alloc (.cells #[.string ⟨#[]⟩, .string ⟨#[]⟩, .bool false, .slice none 0 0] 32)).alloc (.cells #[.string ⟨#[]⟩, .int .i64 0, .int .i64 0] 34)) (w.heap.size + 1) #[.string ⟨#[]⟩, .int .i64 0, .int .i64 0] := Box.new1 _ _ _ _
  have K0 : Keep w ((w.alloc (.cells #[.string ⟨#[]⟩, .string ⟨#[]⟩, .bool false, .slice none 0 0] 32)).alloc (.cells #[.string ⟨#[]⟩, .int .i64 0, .int .i64 0] 34)) := ((Keep.refl w).alloc _).alloc _
  refine (CL.out _).mono ?_
  intro e w1 h
  unfold LexR at h
  rw [HL.out] at h
  obtain ⟨v, rfl, hown, hk⟩ := h
  have TT := own_toks hown
  have HB0 := Lib.hid ((B0.keep hk).alloc (.cells #[.string ⟨#[]⟩, .int .i64 0, .int .i64 0] 34))
  have HB1 := Lib.hid ((B1.keep hk).alloc (.cells #[.string ⟨#[]⟩, .int .i64 0, .int .i64 0] 34))
  have K1 := Lib.hid ((K0.trans hk).alloc (.cells #[.string ⟨#[]⟩, .int .i64 0, .int .i64 0] 34))
  have KA := Lib.hid ((Keep.refl w1).alloc (.cells #[.string ⟨#[]⟩, .int .i64 0, .int .i64 0] 34))
  have BP := Lib.hid (Box.new1 w1 (.cells #[.string ⟨#[]⟩, .int .i64 0, .int .i64 0] 34) #[.string ⟨#[]⟩, .string ⟨#[]⟩, .bool false, .slice none 0 0] 32)
  have lt : w.heap.size + 1 < w1.heap.size := (B1.keep hk).lt
  have n01 : w.heap.size ≠ w.heap.size + 1 := by omega
  have n10 : w.heap.size + 1 ≠ w.heap.size := by omega
  have n0p : w.heap.size ≠ w1.heap.size + 1 := by omega
  have n1p : w.heap.size + 1 ≠ w1.heap.size + 1 := by omega
  have np0 : w1.heap.size + 1 ≠ w.heap.size := by omega
  have np1 : w1.heap.size + 1 ≠ w.heap.size + 1 := by omega
  have c0 := fun o => (HB0.out.alloc o).cells
  have c1 := fun o => (HB1.out.alloc o).cells
  have f0 := fun o => (HB0.out.alloc o).thawed
  have f1 := fun o => (HB1.out.alloc o).thawed
  have HT1 := Lib.hid TT
  clear hk hown B0 B1 K0
  obtain ⟨p_, cap, rfl, hcap, htk⟩ := TT
  rcases htk with h0 | ⟨b, off, rfl, hb, hcell⟩
  · rw [h0] at ht; simp at ht
  have nb0 : ¬ b = w1.heap.size := by omega
  have nbp : ¬ b = w1.heap.size + 1 := by omega
  obtain ⟨at0, at1, _, _⟩ := hcell 0 t ht
  rw [Nat.zero_mul, Nat.add_zero] at at0 at1
  have dt0 := fun o => (((Keep.refl w1).alloc (.cells #[.string ⟨#[]⟩, .int .i64 0, .int .i64 0] 34)).alloc o).cellOf at0
  have dt1 := fun o => (((Keep.refl w1).alloc (.cells #[.string ⟨#[]⟩, .int .i64 0, .int .i64 0] 34)).alloc o).cellOf at1
  clear at0 at1
  have q1 : (1 : Int) < (ts.length : Int) := by omega
  have q2 : (t.kind == 1) = true := by simpa using hk
  have CI := Lib.hid (fun W h => ris_any (.slice (some ⟨b, off, none⟩) ts.length cap) ts (by omega) 1 1 rfl sColon W h)
  rw [hc] at CI
  unfold sColon at CI
  unfold okV wrongV
  have q5 : ((ts.length : Int) == 0) = false := beq_eq_false_iff_ne.2 (by omega)
  have q6 : ((0 : Int) == (ts.length : Int)) = false := beq_eq_false_iff_ne.2 (by omega)
  have q7 : (0 : Int) < (ts.length : Int) := by have := (List.getElem?_eq_some_iff.1 ht).1; omega
  have q8 : ((1 : Int) == (ts.length : Int)) = false := beq_eq_false_iff_ne.2 (by omega)
  clear hcell
  rcases h14 with h14 | h14
  · have k1 : (t.kind != 1) = false := by rw [h14]; rfl
    have k4 : (t.kind != 4) = true := by rw [h14]; rfl
    have k4b : (t.kind == 4) = false := by rw [h14]; rfl
    have HN2 : Hid (lineL ts = .ok ⟨⟨#[]⟩, t.text, false, out⟩) := Lib.hid (by rw [HN.out, h14]; rfl)
    go_wp2_with ((with_reducible refine (CI.out _ (HT1.out.keep (KA.out.alloc _))).mono ?_); rintro e w' ⟨rfl, rfl⟩)
    refine calls_past (w := w) (w1 := w1) (b := w.heap.size) (vs := #[.string ⟨#[]⟩, .string ⟨#[]⟩, .bool false, .slice none 0 0]) (c := w.heap.size + 1) (us := #[.string ⟨#[]⟩, .int .i64 0, .int .i64 0]) (d := w1.heap.size + 1) (ts := #[.string ⟨#[]⟩, .string t.text, .bool false, .slice none 0 0]) ?_ ?_ ?_ ?_ ?_ ?_
    · apply Box.conv
      · repeat (first | with_reducible exact HB0.out.alloc _ | with_reducible apply Box.drew | with_reducible apply Box.set | apply Box.past n0p)
      · rfl
    · apply Box.conv
      · repeat (first | with_reducible exact HB1.out.alloc _ | with_reducible apply Box.drew | with_reducible apply Box.set | apply Box.past n1p)
      · rfl
    · apply Box.conv
      · repeat (first | with_reducible exact Box.new1 _ _ _ _ | with_reducible apply Box.drew | with_reducible apply Box.set | apply Box.past np0)
      · rfl
    · repeat (first | with_reducible refine Keep.drew ?_ | (with_reducible refine Keep.setAt ?_ ?_ _; · omega))
      exact K1.out.alloc _
    · repeat (first | with_reducible refine Keep.drew ?_ | (with_reducible refine Keep.setAt ?_ ?_ _; · omega))
      exact KA.out.alloc _
    intro W3 D0 D1 DP E0 E1
    refine (roperands_any _ ts (by omega) 1 (by omega) W3 (HT1.out.keep E1)).mono ?_
    rintro e w4 ⟨hop, hk4⟩
    unfold OpsR at hop
    rw [ho] at hop
    obtain ⟨v5, rfl, hO5⟩ := hop
    obtain ⟨po, co, rfl⟩ := OutAt.slice hO5
    have OUT := Lib.hid hO5
    have M0 := Lib.hid (D0.keep hk4)
    have M1 := Lib.hid (D1.keep hk4)
    have MP := Lib.hid (DP.keep hk4)
    have K4 := Lib.hid (E0.trans hk4)
    have l3 : w1.heap.size + 1 < W3.heap.size := DP.lt
    have l4 : w.heap.size ≤ W3.heap.size := E0.size
    have m0 := M0.out.cells
    have m1 := M1.out.cells
    have mp := MP.out.cells
    have g0 := M0.out.thawed
    have g1 := M1.out.thawed
    have gp := MP.out.thawed
    clear hk4 D0 D1 DP E0 E1 hO5
    unfold mOne
    go_wp2_with fail
    refine ret_out (w := w) (base := W3.heap.size) (v := (.slice po out.length co)) (out := out) (b := w.heap.size) (vs := #[.string ⟨#[]⟩, .string t.text, .bool false, .slice po out.length co]) (c := w.heap.size + 1) (us := #[.string ⟨#[]⟩, .int .i64 0, .int .i64 0]) ?_ ?_ ?_ ?_ ?_
    · apply Box.conv
      · repeat (first | with_reducible exact M0.out | with_reducible apply Box.drew | with_reducible apply Box.set | apply Box.past n01 | apply Box.past n0p)
      · rfl
    · apply Box.conv
      · repeat (first | with_reducible exact M1.out | with_reducible apply Box.drew | with_reducible apply Box.set | apply Box.past n10 | apply Box.past n1p)
      · rfl
    · repeat (first | with_reducible refine Keep.drew ?_ | (with_reducible refine Keep.setAt ?_ ?_ _; · omega))
      exact K4.out
    · repeat (first | with_reducible refine OutAt.dr ?_ | (with_reducible refine OutAt.setOld ?_ ?_ _; rotate_left; · omega))
      exact OUT.out
    intro W' hB hC hK hO
    have cB := hB.cells
    have cC := hC.cells
    refine bodyPost_ret (v := .tuple #[.agg #[.string ⟨#[]⟩, .string t.text, .bool false, .slice po out.length co], .agg #[.string ⟨#[]⟩, .int .i64 0, .int .i64 0]]) (by simp [results, Tryz.results6, go_sem, cB, cC]; done) rfl ⟨ParR.ok HL.out HN2.out (OutAt.base hO l4), hK⟩
  · exfalso; omega
set_option maxHeartbeats 2000000 in
set_option maxRecDepth 100000 in
theorem rparse_P4 (s : ByteArray) (hs : s.size ≤ 10000) (w : World) {ts : List Tok} (hl : lexL s.data.toList 0 = .ok ts) (t : Tok) (ht : ts[0]? = some t) (e1 : 1 < ts.length) (hk : t.kind = 1) (hc : isSg ts 1 sColon = true) (r : Nat) (hr : regL [t] = some r) (hLine : lineL ts = .error (0, 12)) : Calls Tryz.prog 6 #[.string s] w fun e w' => ParR s.data.toList w e w' ∧ Keep w w' := by
  have HL := Lib.hid hl
  have HN := Lib.hid hLine
  have few : ts.length ≤ 10000 := by have := (lexL_toks _ _ _ _ (Nat.le_refl _) hl).2; simp at this; omega
  have CL := Lib.hid (fun W => rlex_any s (by omega) W)
  clear hl hLine
  go_enter Tryz.func6, Tryz.ntmps6
  go_wp2_with fail
  have B0 : Box ((w.alloc (.cells #[.string ⟨#[]⟩, .string ⟨#[]⟩, .bool false, .slice none 0 0] 32)).alloc (.cells #[.string ⟨#[]⟩, .int .i64 0, .int .i64 0] 34)) w.heap.size #[.string ⟨#[]⟩, .string ⟨#[]⟩, .bool false, .slice none 0 0] := (Box.new _ _ _).alloc _
  have B1 : Box ((w.alloc (.cells #[.string ⟨#[]⟩, .string ⟨#[]⟩, .bool false, .slice none 0 0] 32)).alloc (.cells #[.string ⟨#[]⟩, .int .i64 0, .int .i64 0] 34)) (w.heap.size + 1) #[.string ⟨#[]⟩, .int .i64 0, .int .i64 0] := Box.new1 _ _ _ _
  have K0 : Keep w ((w.alloc (.cells #[.string ⟨#[]⟩, .string ⟨#[]⟩, .bool false, .slice none 0 0] 32)).alloc (.cells #[.string ⟨#[]⟩, .int .i64 0, .int .i64 0] 34)) := ((Keep.refl w).alloc _).alloc _
  refine (CL.out _).mono ?_
  intro e w1 h
  unfold LexR at h
  rw [HL.out] at h
  obtain ⟨v, rfl, hown, hk⟩ := h
  have TT := own_toks hown
  have HB0 := Lib.hid ((B0.keep hk).alloc (.cells #[.string ⟨#[]⟩, .int .i64 0, .int .i64 0] 34))
  have HB1 := Lib.hid ((B1.keep hk).alloc (.cells #[.string ⟨#[]⟩, .int .i64 0, .int .i64 0] 34))
  have K1 := Lib.hid ((K0.trans hk).alloc (.cells #[.string ⟨#[]⟩, .int .i64 0, .int .i64 0] 34))
  have KA := Lib.hid ((Keep.refl w1).alloc (.cells #[.string ⟨#[]⟩, .int .i64 0, .int .i64 0] 34))
  have BP := Lib.hid (Box.new1 w1 (.cells #[.string ⟨#[]⟩, .int .i64 0, .int .i64 0] 34) #[.string ⟨#[]⟩, .string ⟨#[]⟩, .bool false, .slice none 0 0] 32)
  have lt : w.heap.size + 1 < w1.heap.size := (B1.keep hk).lt
  have n01 : w.heap.size ≠ w.heap.size + 1 := by omega
  have n10 : w.heap.size + 1 ≠ w.heap.size := by omega
  have n0p : w.heap.size ≠ w1.heap.size + 1 := by omega
  have n1p : w.heap.size + 1 ≠ w1.heap.size + 1 := by omega
  have np0 : w1.heap.size + 1 ≠ w.heap.size := by omega
  have np1 : w1.heap.size + 1 ≠ w.heap.size + 1 := by omega
  have c0 := fun o => (HB0.out.alloc o).cells
  have c1 := fun o => (HB1.out.alloc o).cells
  have f0 := fun o => (HB0.out.alloc o).thawed
  have f1 := fun o => (HB1.out.alloc o).thawed
  have HT1 := Lib.hid TT
  clear hk hown B0 B1 K0
  obtain ⟨p_, cap, rfl, hcap, htk⟩ := TT
  rcases htk with h0 | ⟨b, off, rfl, hb, hcell⟩
  · rw [h0] at ht; simp at ht
  have nb0 : ¬ b = w1.heap.size := by omega
  have nbp : ¬ b = w1.heap.size + 1 := by omega
  obtain ⟨at0, at1, _, _⟩ := hcell 0 t ht
  rw [Nat.zero_mul, Nat.add_zero] at at0 at1
  have dt0 := fun o => (((Keep.refl w1).alloc (.cells #[.string ⟨#[]⟩, .int .i64 0, .int .i64 0] 34)).alloc o).cellOf at0
  have dt1 := fun o => (((Keep.refl w1).alloc (.cells #[.string ⟨#[]⟩, .int .i64 0, .int .i64 0] 34)).alloc o).cellOf at1
  clear at0 at1
  have q1 : (1 : Int) < (ts.length : Int) := by omega
  have q2 : (t.kind == 1) = true := by simpa using hk
  have CI := Lib.hid (fun W h => ris_any (.slice (some ⟨b, off, none⟩) ts.length cap) ts (by omega) 1 1 rfl sColon W h)
  rw [hc] at CI
  unfold sColon at CI
  unfold okV wrongV
  have one1 : (1 : Int) ≤ (cap : Int) := by omega
  go_wp2_with ((with_reducible refine (CI.out _ (HT1.out.keep (KA.out.alloc _))).mono ?_); rintro e w' ⟨rfl, rfl⟩)
  have hp1 := (HT1.out.keep (KA.out.alloc (.cells #[.string ⟨#[]⟩, .string ⟨#[]⟩, .bool false, .slice none 0 0] 32))).part 0 1 (by omega) (some ⟨b, off, none⟩) cap (fun _ => ⟨b, off, rfl, rfl⟩) (by omega)
  have hone : (ts.drop 0).take 1 = [t] := by
    cases ts with
    | nil => simp at ht
    | cons y l => simp at ht; subst ht; rfl
  rw [hone] at hp1
  refine (rreg_any _ [t] (by simp) _ hp1).mono ?_
  rintro e w2 ⟨rfl, hk2⟩
  rw [hr]
  unfold regV
  have GB0 := Lib.hid ((HB0.out.alloc (.cells #[.string ⟨#[]⟩, .string ⟨#[]⟩, .bool false, .slice none 0 0] 32)).keep hk2)
  have GB1 := Lib.hid ((HB1.out.alloc (.cells #[.string ⟨#[]⟩, .string ⟨#[]⟩, .bool false, .slice none 0 0] 32)).keep hk2)
  have GBP := Lib.hid (BP.out.keep hk2)
  have K2 := Lib.hid ((K1.out.alloc (.cells #[.string ⟨#[]⟩, .string ⟨#[]⟩, .bool false, .slice none 0 0] 32)).trans hk2)
  have KB := Lib.hid ((KA.out.alloc (.cells #[.string ⟨#[]⟩, .string ⟨#[]⟩, .bool false, .slice none 0 0] 32)).trans hk2)
  have cc0 := GB0.out.cells
  have cc1 := GB1.out.cells
  have ccp := GBP.out.cells
  have ff0 := GB0.out.thawed
  have ff1 := GB1.out.thawed
  have ffp := GBP.out.thawed
  have dt1' := hk2.cellOf (dt1 _)
  clear c0 c1 f0 f1 dt0 dt1 hp1 hone hk2 CI
  clear hcell
  go_wp2_with (fail)
  refine ret_out (w := w) (base := w.heap.size) (v := .slice none 0 0) (out := []) (b := w.heap.size) (vs := #[.string ⟨#[]⟩, .string ⟨#[]⟩, .bool false, .slice none 0 0]) (c := w.heap.size + 1) (us := #[.string ⟨#[116, 111, 107, 101, 110]⟩, .int .i64 0, .int .i64 12]) ?_ ?_ ?_ ?_ ?_
  · apply Box.conv
    · repeat (first | with_reducible exact GB0.out | with_reducible apply Box.drew | with_reducible apply Box.set | apply Box.past n01 | apply Box.past n0p)
    · rfl
  · apply Box.conv
    · repeat (first | with_reducible exact GB1.out | with_reducible apply Box.drew | with_reducible apply Box.set | apply Box.past n10 | apply Box.past n1p)
    · rfl
  · repeat (first | with_reducible refine Keep.drew ?_ | (with_reducible refine Keep.setAt ?_ ?_ _; · omega))
    exact K2.out
  · exact OutAt.nil _ _
  intro W' hB hC hK hO
  have cB := hB.cells
  have cC := hC.cells
  refine bodyPost_ret (v := .tuple #[.agg #[.string ⟨#[]⟩, .string ⟨#[]⟩, .bool false, .slice none 0 0], .agg #[.string ⟨#[116, 111, 107, 101, 110]⟩, .int .i64 0, .int .i64 12]]) (by simp [results, Tryz.results6, go_sem, cB, cC]; done) rfl ⟨ParR.bad HL.out HN.out, hK⟩
set_option maxHeartbeats 2000000 in
set_option maxRecDepth 100000 in
theorem rparse_P5R1 (s : ByteArray) (hs : s.size ≤ 10000) (w : World) {ts : List Tok} (hl : lexL s.data.toList 0 = .ok ts) (t : Tok) (ht : ts[0]? = some t) (e1 : 1 < ts.length) (hk : t.kind = 1) (hc : isSg ts 1 sColon = true) (hr : regL [t] = none) (e2 : ts.length = 2) (hLine : lineL ts = .ok ⟨t.text, ⟨#[]⟩, false, []⟩) : Calls Tryz.prog 6 #[.string s] w fun e w' => ParR s.data.toList w e w' ∧ Keep w w' := by
  have HL := Lib.hid hl
  have HN := Lib.hid hLine
  have few : ts.length ≤ 10000 := by have := (lexL_toks _ _ _ _ (Nat.le_refl _) hl).2; simp at this; omega
  have CL := Lib.hid (fun W => rlex_any s (by omega) W)
  clear hl hLine
  have EQ := Lib.hid e2
  clear e2
  go_enter Tryz.func6, Tryz.ntmps6
  go_wp2_with fail
  have B0 : Box ((w.alloc (.cells #[.string ⟨#[]⟩, .string ⟨#[]⟩, .bool false, .slice none 0 0] 32)).alloc (.cells #[.string ⟨#[]⟩, .int .i64 0, .int .i64 0] 34)) w.heap.size #[.string ⟨#[]⟩, .string ⟨#[]⟩, .bool false, .slice none 0 0] := (Box.new _ _ _).alloc _
  have B1 : Box ((w.alloc (.cells #[.string ⟨#[]⟩, .string ⟨#[]⟩, .bool false, .slice none 0 0] 32)).alloc (.cells #[.string ⟨#[]⟩, .int .i64 0, .int .i64 0] 34)) (w.heap.size + 1) #[.string ⟨#[]⟩, .int .i64 0, .int .i64 0] := Box.new1 _ _ _ _
  have K0 : Keep w ((w.alloc (.cells #[.string ⟨#[]⟩, .string ⟨#[]⟩, .bool false, .slice none 0 0] 32)).alloc (.cells #[.string ⟨#[]⟩, .int .i64 0, .int .i64 0] 34)) := ((Keep.refl w).alloc _).alloc _
  refine (CL.out _).mono ?_
  intro e w1 h
  unfold LexR at h
  rw [HL.out] at h
  obtain ⟨v, rfl, hown, hk⟩ := h
  have TT := own_toks hown
  have HB0 := Lib.hid ((B0.keep hk).alloc (.cells #[.string ⟨#[]⟩, .int .i64 0, .int .i64 0] 34))
  have HB1 := Lib.hid ((B1.keep hk).alloc (.cells #[.string ⟨#[]⟩, .int .i64 0, .int .i64 0] 34))
  have K1 := Lib.hid ((K0.trans hk).alloc (.cells #[.string ⟨#[]⟩, .int .i64 0, .int .i64 0] 34))
  have KA := Lib.hid ((Keep.refl w1).alloc (.cells #[.string ⟨#[]⟩, .int .i64 0, .int .i64 0] 34))
  have BP := Lib.hid (Box.new1 w1 (.cells #[.string ⟨#[]⟩, .int .i64 0, .int .i64 0] 34) #[.string ⟨#[]⟩, .string ⟨#[]⟩, .bool false, .slice none 0 0] 32)
  have lt : w.heap.size + 1 < w1.heap.size := (B1.keep hk).lt
  have n01 : w.heap.size ≠ w.heap.size + 1 := by omega
  have n10 : w.heap.size + 1 ≠ w.heap.size := by omega
  have n0p : w.heap.size ≠ w1.heap.size + 1 := by omega
  have n1p : w.heap.size + 1 ≠ w1.heap.size + 1 := by omega
  have np0 : w1.heap.size + 1 ≠ w.heap.size := by omega
  have np1 : w1.heap.size + 1 ≠ w.heap.size + 1 := by omega
  have c0 := fun o => (HB0.out.alloc o).cells
  have c1 := fun o => (HB1.out.alloc o).cells
  have f0 := fun o => (HB0.out.alloc o).thawed
  have f1 := fun o => (HB1.out.alloc o).thawed
  have HT1 := Lib.hid TT
  clear hk hown B0 B1 K0
  obtain ⟨p_, cap, rfl, hcap, htk⟩ := TT
  rcases htk with h0 | ⟨b, off, rfl, hb, hcell⟩
  · rw [h0] at ht; simp at ht
  have nb0 : ¬ b = w1.heap.size := by omega
  have nbp : ¬ b = w1.heap.size + 1 := by omega
  obtain ⟨at0, at1, _, _⟩ := hcell 0 t ht
  rw [Nat.zero_mul, Nat.add_zero] at at0 at1
  have dt0 := fun o => (((Keep.refl w1).alloc (.cells #[.string ⟨#[]⟩, .int .i64 0, .int .i64 0] 34)).alloc o).cellOf at0
  have dt1 := fun o => (((Keep.refl w1).alloc (.cells #[.string ⟨#[]⟩, .int .i64 0, .int .i64 0] 34)).alloc o).cellOf at1
  clear at0 at1
  have q1 : (1 : Int) < (ts.length : Int) := by omega
  have q2 : (t.kind == 1) = true := by simpa using hk
  have CI := Lib.hid (fun W h => ris_any (.slice (some ⟨b, off, none⟩) ts.length cap) ts (by omega) 1 1 rfl sColon W h)
  rw [hc] at CI
  unfold sColon at CI
  unfold okV wrongV
  have one1 : (1 : Int) ≤ (cap : Int) := by omega
  go_wp2_with ((with_reducible refine (CI.out _ (HT1.out.keep (KA.out.alloc _))).mono ?_); rintro e w' ⟨rfl, rfl⟩)
  have hp1 := (HT1.out.keep (KA.out.alloc (.cells #[.string ⟨#[]⟩, .string ⟨#[]⟩, .bool false, .slice none 0 0] 32))).part 0 1 (by omega) (some ⟨b, off, none⟩) cap (fun _ => ⟨b, off, rfl, rfl⟩) (by omega)
  have hone : (ts.drop 0).take 1 = [t] := by
    cases ts with
    | nil => simp at ht
    | cons y l => simp at ht; subst ht; rfl
  rw [hone] at hp1
  refine (rreg_any _ [t] (by simp) _ hp1).mono ?_
  rintro e w2 ⟨rfl, hk2⟩
  rw [hr]
  unfold regV
  have GB0 := Lib.hid ((HB0.out.alloc (.cells #[.string ⟨#[]⟩, .string ⟨#[]⟩, .bool false, .slice none 0 0] 32)).keep hk2)
  have GB1 := Lib.hid ((HB1.out.alloc (.cells #[.string ⟨#[]⟩, .string ⟨#[]⟩, .bool false, .slice none 0 0] 32)).keep hk2)
  have GBP := Lib.hid (BP.out.keep hk2)
  have K2 := Lib.hid ((K1.out.alloc (.cells #[.string ⟨#[]⟩, .string ⟨#[]⟩, .bool false, .slice none 0 0] 32)).trans hk2)
  have KB := Lib.hid ((KA.out.alloc (.cells #[.string ⟨#[]⟩, .string ⟨#[]⟩, .bool false, .slice none 0 0] 32)).trans hk2)
  have cc0 := GB0.out.cells
  have cc1 := GB1.out.cells
  have ccp := GBP.out.cells
  have ff0 := GB0.out.thawed
  have ff1 := GB1.out.thawed
  have ffp := GBP.out.thawed
  have dt1' := hk2.cellOf (dt1 _)
  clear c0 c1 f0 f1 dt0 dt1 hp1 hone hk2 CI
  have q5 : ((ts.length : Int) == 2) = true := beq_iff_eq.2 (by have := EQ.out; omega)
  have q6 : ((2 : Int) == (ts.length : Int)) = true := beq_iff_eq.2 (by have := EQ.out; omega)
  clear hcell
  go_wp2_with (fail)
  refine ret_out (w := w) (base := w.heap.size) (v := .slice none 0 0) (out := []) (b := w.heap.size) (vs := #[.string t.text, .string ⟨#[]⟩, .bool false, .slice none 0 0]) (c := w.heap.size + 1) (us := #[.string ⟨#[]⟩, .int .i64 0, .int .i64 0]) ?_ ?_ ?_ ?_ ?_
  · apply Box.conv
    · repeat (first | with_reducible exact GB0.out | with_reducible apply Box.drew | with_reducible apply Box.set | apply Box.past n01 | apply Box.past n0p)
    · rfl
  · apply Box.conv
    · repeat (first | with_reducible exact GB1.out | with_reducible apply Box.drew | with_reducible apply Box.set | apply Box.past n10 | apply Box.past n1p)
    · rfl
  · repeat (first | with_reducible refine Keep.drew ?_ | (with_reducible refine Keep.setAt ?_ ?_ _; · omega))
    exact K2.out
  · exact OutAt.nil _ _
  intro W' hB hC hK hO
  have cB := hB.cells
  have cC := hC.cells
  refine bodyPost_ret (v := .tuple #[.agg #[.string t.text, .string ⟨#[]⟩, .bool false, .slice none 0 0], .agg #[.string ⟨#[]⟩, .int .i64 0, .int .i64 0]]) (by simp [results, Tryz.results6, go_sem, cB, cC]; done) rfl ⟨ParR.ok HL.out HN.out hO, hK⟩
set_option maxHeartbeats 2000000 in
set_option maxRecDepth 100000 in
theorem rparse_P5R2 (s : ByteArray) (hs : s.size ≤ 10000) (w : World) {ts : List Tok} (hl : lexL s.data.toList 0 = .ok ts) (t : Tok) (ht : ts[0]? = some t) (e1 : 1 < ts.length) (hk : t.kind = 1) (hc : isSg ts 1 sColon = true) (hr : regL [t] = none) (x : Tok) (hx : ts[2]? = some x) (h1 : ¬ x.kind = 1) (h4 : ¬ x.kind = 4) (hLine : lineL ts = .error (2, 11)) : Calls Tryz.prog 6 #[.string s] w fun e w' => ParR s.data.toList w e w' ∧ Keep w w' := by
  have HL := Lib.hid hl
  have HN := Lib.hid hLine
  have few : ts.length ≤ 10000 := by have := (lexL_toks _ _ _ _ (Nat.le_refl _) hl).2; simp at this; omega
  have CL := Lib.hid (fun W => rlex_any s (by omega) W)
  clear hl hLine
  go_enter Tryz.func6, Tryz.ntmps6
  go_wp2_with fail
  have B0 : Box ((w.alloc (.cells #[.string ⟨#[]⟩, .string ⟨#[]⟩, .bool false, .slice none 0 0] 32)).alloc (.cells #[.string ⟨#[]⟩, .int .i64 0, .int .i64 0] 34)) w.heap.size #[.string ⟨#[]⟩, .string ⟨#[]⟩, .bool false, .slice none 0 0] := (Box.new _ _ _).alloc _
  have B1 : Box ((w.alloc (.cells #[.string ⟨#[]⟩, .string ⟨#[]⟩, .bool false, .slice none 0 0] 32)).alloc (.cells #[.string ⟨#[]⟩, .int .i64 0, .int .i64 0] 34)) (w.heap.size + 1) #[.string ⟨#[]⟩, .int .i64 0, .int .i64 0] := Box.new1 _ _ _ _
  have K0 : Keep w ((w.alloc (.cells #[.string ⟨#[]⟩, .string ⟨#[]⟩, .bool false, .slice none 0 0] 32)).alloc (.cells #[.string ⟨#[]⟩, .int .i64 0, .int .i64 0] 34)) := ((Keep.refl w).alloc _).alloc _
  refine (CL.out _).mono ?_
  intro e w1 h
  unfold LexR at h
  rw [HL.out] at h
  obtain ⟨v, rfl, hown, hk⟩ := h
  have TT := own_toks hown
  have HB0 := Lib.hid ((B0.keep hk).alloc (.cells #[.string ⟨#[]⟩, .int .i64 0, .int .i64 0] 34))
  have HB1 := Lib.hid ((B1.keep hk).alloc (.cells #[.string ⟨#[]⟩, .int .i64 0, .int .i64 0] 34))
  have K1 := Lib.hid ((K0.trans hk).alloc (.cells #[.string ⟨#[]⟩, .int .i64 0, .int .i64 0] 34))
  have KA := Lib.hid ((Keep.refl w1).alloc (.cells #[.string ⟨#[]⟩, .int .i64 0, .int .i64 0] 34))
  have BP := Lib.hid (Box.new1 w1 (.cells #[.string ⟨#[]⟩, .int .i64 0, .int .i64 0] 34) #[.string ⟨#[]⟩, .string ⟨#[]⟩, .bool false, .slice none 0 0] 32)
  have lt : w.heap.size + 1 < w1.heap.size := (B1.keep hk).lt
  have n01 : w.heap.size ≠ w.heap.size + 1 := by omega
  have n10 : w.heap.size + 1 ≠ w.heap.size := by omega
  have n0p : w.heap.size ≠ w1.heap.size + 1 := by omega
  have n1p : w.heap.size + 1 ≠ w1.heap.size + 1 := by omega
  have np0 : w1.heap.size + 1 ≠ w.heap.size := by omega
  have np1 : w1.heap.size + 1 ≠ w.heap.size + 1 := by omega
  have c0 := fun o => (HB0.out.alloc o).cells
  have c1 := fun o => (HB1.out.alloc o).cells
  have f0 := fun o => (HB0.out.alloc o).thawed
  have f1 := fun o => (HB1.out.alloc o).thawed
  have HT1 := Lib.hid TT
  clear hk hown B0 B1 K0
  obtain ⟨p_, cap, rfl, hcap, htk⟩ := TT
  rcases htk with h0 | ⟨b, off, rfl, hb, hcell⟩
  · rw [h0] at ht; simp at ht
  have nb0 : ¬ b = w1.heap.size := by omega
  have nbp : ¬ b = w1.heap.size + 1 := by omega
  obtain ⟨at0, at1, _, _⟩ := hcell 0 t ht
  rw [Nat.zero_mul, Nat.add_zero] at at0 at1
  have dt0 := fun o => (((Keep.refl w1).alloc (.cells #[.string ⟨#[]⟩, .int .i64 0, .int .i64 0] 34)).alloc o).cellOf at0
  have dt1 := fun o => (((Keep.refl w1).alloc (.cells #[.string ⟨#[]⟩, .int .i64 0, .int .i64 0] 34)).alloc o).cellOf at1
  clear at0 at1
  have q1 : (1 : Int) < (ts.length : Int) := by omega
  have q2 : (t.kind == 1) = true := by simpa using hk
  have CI := Lib.hid (fun W h => ris_any (.slice (some ⟨b, off, none⟩) ts.length cap) ts (by omega) 1 1 rfl sColon W h)
  rw [hc] at CI
  unfold sColon at CI
  unfold okV wrongV
  have one1 : (1 : Int) ≤ (cap : Int) := by omega
  go_wp2_with ((with_reducible refine (CI.out _ (HT1.out.keep (KA.out.alloc _))).mono ?_); rintro e w' ⟨rfl, rfl⟩)
  have hp1 := (HT1.out.keep (KA.out.alloc (.cells #[.string ⟨#[]⟩, .string ⟨#[]⟩, .bool false, .slice none 0 0] 32))).part 0 1 (by omega) (some ⟨b, off, none⟩) cap (fun _ => ⟨b, off, rfl, rfl⟩) (by omega)
  have hone : (ts.drop 0).take 1 = [t] := by
    cases ts with
    | nil => simp at ht
    | cons y l => simp at ht; subst ht; rfl
  rw [hone] at hp1
  refine (rreg_any _ [t] (by simp) _ hp1).mono ?_
  rintro e w2 ⟨rfl, hk2⟩
  rw [hr]
  unfold regV
  have GB0 := Lib.hid ((HB0.out.alloc (.cells #[.string ⟨#[]⟩, .string ⟨#[]⟩, .bool false, .slice none 0 0] 32)).keep hk2)
  have GB1 := Lib.hid ((HB1.out.alloc (.cells #[.string ⟨#[]⟩, .string ⟨#[]⟩, .bool false, .slice none 0 0] 32)).keep hk2)
  have GBP := Lib.hid (BP.out.keep hk2)
  have K2 := Lib.hid ((K1.out.alloc (.cells #[.string ⟨#[]⟩, .string ⟨#[]⟩, .bool false, .slice none 0 0] 32)).trans hk2)
  have KB := Lib.hid ((KA.out.alloc (.cells #[.string ⟨#[]⟩, .string ⟨#[]⟩, .bool false, .slice none 0 0] 32)).trans hk2)
  have cc0 := GB0.out.cells
  have cc1 := GB1.out.cells
  have ccp := GBP.out.cells
  have ff0 := GB0.out.thawed
  have ff1 := GB1.out.thawed
  have ffp := GBP.out.thawed
  have dt1' := hk2.cellOf (dt1 _)
  clear c0 c1 f0 f1 dt0 dt1 hp1 hone hk2 CI
  obtain ⟨ax0, ax1, _, _⟩ := hcell 2 x hx
  rw [show off + 2 * 4 = off + 8 from rfl] at ax0 ax1
  have dx0 := KB.out.cellOf ax0
  have dx1 := KB.out.cellOf ax1
  clear ax0 ax1
  have q7n : 2 < ts.length := (List.getElem?_eq_some_iff.1 hx).1
  have q5 : ((ts.length : Int) == 2) = false := beq_eq_false_iff_ne.2 (by omega)
  have q6 : ((2 : Int) == (ts.length : Int)) = false := beq_eq_false_iff_ne.2 (by omega)
  have q7 : (2 : Int) < (ts.length : Int) := by have := (List.getElem?_eq_some_iff.1 hx).1; omega
  have k1 : (x.kind != 1) = true := by simpa using h1
  have k4 : (x.kind != 4) = true := by simpa using h4
  clear hcell
  go_wp2_with (fail)
  refine ret_out (w := w) (base := w.heap.size) (v := .slice none 0 0) (out := []) (b := w.heap.size) (vs := #[.string ⟨#[]⟩, .string ⟨#[]⟩, .bool false, .slice none 0 0]) (c := w.heap.size + 1) (us := #[.string ⟨#[116, 111, 107, 101, 110]⟩, .int .i64 2, .int .i64 11]) ?_ ?_ ?_ ?_ ?_
  · apply Box.conv
    · repeat (first | with_reducible exact GB0.out | with_reducible apply Box.drew | with_reducible apply Box.set | apply Box.past n01 | apply Box.past n0p)
    · rfl
  · apply Box.conv
    · repeat (first | with_reducible exact GB1.out | with_reducible apply Box.drew | with_reducible apply Box.set | apply Box.past n10 | apply Box.past n1p)
    · rfl
  · repeat (first | with_reducible refine Keep.drew ?_ | (with_reducible refine Keep.setAt ?_ ?_ _; · omega))
    exact K2.out
  · exact OutAt.nil _ _
  intro W' hB hC hK hO
  have cB := hB.cells
  have cC := hC.cells
  refine bodyPost_ret (v := .tuple #[.agg #[.string ⟨#[]⟩, .string ⟨#[]⟩, .bool false, .slice none 0 0], .agg #[.string ⟨#[116, 111, 107, 101, 110]⟩, .int .i64 2, .int .i64 11]]) (by simp [results, Tryz.results6, go_sem, cB, cC]; done) rfl ⟨ParR.bad HL.out HN.out, hK⟩
set_option maxHeartbeats 2000000 in
set_option maxRecDepth 100000 in
theorem rparse_P5R3 (s : ByteArray) (hs : s.size ≤ 10000) (w : World) {ts : List Tok} (hl : lexL s.data.toList 0 = .ok ts) (t : Tok) (ht : ts[0]? = some t) (e1 : 1 < ts.length) (hk : t.kind = 1) (hc : isSg ts 1 sColon = true) (hr : regL [t] = none) (x : Tok) (hx : ts[2]? = some x) (h14 : x.kind = 1 ∨ x.kind = 4) (e3 : ts.length = 3) (hLine : lineL ts = .ok ⟨t.text, x.text, decide (x.kind = 4), []⟩) : Calls Tryz.prog 6 #[.string s] w fun e w' => ParR s.data.toList w e w' ∧ Keep w w' := by
  have HL := Lib.hid hl
  have HN := Lib.hid hLine
  have few : ts.length ≤ 10000 := by have := (lexL_toks _ _ _ _ (Nat.le_refl _) hl).2; simp at this; omega
  have CL := Lib.hid (fun W => rlex_any s (by omega) W)
  clear hl hLine
  have EQ := Lib.hid e3
  clear e3
  go_enter Tryz.func6, Tryz.ntmps6
  go_wp2_with fail
  have B0 : Box ((w.alloc (.cells #[.string ⟨#[]⟩, .string ⟨#[]⟩, .bool false, .slice none 0 0] 32)).alloc (.cells #[.string ⟨#[]⟩, .int .i64 0, .int .i64 0] 34)) w.heap.size #[.string ⟨#[]⟩, .string ⟨#[]⟩, .bool false, .slice none 0 0] := (Box.new _ _ _).alloc _
  have B1 : Box ((w.alloc (.cells #[.string ⟨#[]⟩, .string ⟨#[]⟩, .bool false, .slice none 0 0] 32)).alloc (.cells #[.string ⟨#[]⟩, .int .i64 0, .int .i64 0] 34)) (w.heap.size + 1) #[.string ⟨#[]⟩, .int .i64 0, .int .i64 0] := Box.new1 _ _ _ _
  have K0 : Keep w ((w.alloc (.cells #[.string ⟨#[]⟩, .string ⟨#[]⟩, .bool false, .slice none 0 0] 32)).alloc (.cells #[.string ⟨#[]⟩, .int .i64 0, .int .i64 0] 34)) := ((Keep.refl w).alloc _).alloc _
  refine (CL.out _).mono ?_
  intro e w1 h
  unfold LexR at h
  rw [HL.out] at h
  obtain ⟨v, rfl, hown, hk⟩ := h
  have TT := own_toks hown
  have HB0 := Lib.hid ((B0.keep hk).alloc (.cells #[.string ⟨#[]⟩, .int .i64 0, .int .i64 0] 34))
  have HB1 := Lib.hid ((B1.keep hk).alloc (.cells #[.string ⟨#[]⟩, .int .i64 0, .int .i64 0] 34))
  have K1 := Lib.hid ((K0.trans hk).alloc (.cells #[.string ⟨#[]⟩, .int .i64 0, .int .i64 0] 34))
  have KA := Lib.hid ((Keep.refl w1).alloc (.cells #[.string ⟨#[]⟩, .int .i64 0, .int .i64 0] 34))
  have BP := Lib.hid (Box.new1 w1 (.cells #[.string ⟨#[]⟩, .int .i64 0, .int .i64 0] 34) #[.string ⟨#[]⟩, .string ⟨#[]⟩, .bool false, .slice none 0 0] 32)
  have lt : w.heap.size + 1 < w1.heap.size := (B1.keep hk).lt
  have n01 : w.heap.size ≠ w.heap.size + 1 := by omega
  have n10 : w.heap.size + 1 ≠ w.heap.size := by omega
  have n0p : w.heap.size ≠ w1.heap.size + 1 := by omega
  have n1p : w.heap.size + 1 ≠ w1.heap.size + 1 := by omega
  have np0 : w1.heap.size + 1 ≠ w.heap.size := by omega
  have np1 : w1.heap.size + 1 ≠ w.heap.size + 1 := by omega
  have c0 := fun o => (HB0.out.alloc o).cells
  have c1 := fun o => (HB1.out.alloc o).cells
  have f0 := fun o => (HB0.out.alloc o).thawed
  have f1 := fun o => (HB1.out.alloc o).thawed
  have HT1 := Lib.hid TT
  clear hk hown B0 B1 K0
  obtain ⟨p_, cap, rfl, hcap, htk⟩ := TT
  rcases htk with h0 | ⟨b, off, rfl, hb, hcell⟩
  · rw [h0] at ht; simp at ht
  have nb0 : ¬ b = w1.heap.size := by omega
  have nbp : ¬ b = w1.heap.size + 1 := by omega
  obtain ⟨at0, at1, _, _⟩ := hcell 0 t ht
  rw [Nat.zero_mul, Nat.add_zero] at at0 at1
  have dt0 := fun o => (((Keep.refl w1).alloc (.cells #[.string ⟨#[]⟩, .int .i64 0, .int .i64 0] 34)).alloc o).cellOf at0
  have dt1 := fun o => (((Keep.refl w1).alloc (.cells #[.string ⟨#[]⟩, .int .i64 0, .int .i64 0] 34)).alloc o).cellOf at1
  clear at0 at1
  have q1 : (1 : Int) < (ts.length : Int) := by omega
  have q2 : (t.kind == 1) = true := by simpa using hk
  have CI := Lib.hid (fun W h => ris_any (.slice (some ⟨b, off, none⟩) ts.length cap) ts (by omega) 1 1 rfl sColon W h)
  rw [hc] at CI
  unfold sColon at CI
  unfold okV wrongV
  have one1 : (1 : Int) ≤ (cap : Int) := by omega
  go_wp2_with ((with_reducible refine (CI.out _ (HT1.out.keep (KA.out.alloc _))).mono ?_); rintro e w' ⟨rfl, rfl⟩)
  have hp1 := (HT1.out.keep (KA.out.alloc (.cells #[.string ⟨#[]⟩, .string ⟨#[]⟩, .bool false, .slice none 0 0] 32))).part 0 1 (by omega) (some ⟨b, off, none⟩) cap (fun _ => ⟨b, off, rfl, rfl⟩) (by omega)
  have hone : (ts.drop 0).take 1 = [t] := by
    cases ts with
    | nil => simp at ht
    | cons y l => simp at ht; subst ht; rfl
  rw [hone] at hp1
  refine (rreg_any _ [t] (by simp) _ hp1).mono ?_
  rintro e w2 ⟨rfl, hk2⟩
  rw [hr]
  unfold regV
  have GB0 := Lib.hid ((HB0.out.alloc (.cells #[.string ⟨#[]⟩, .string ⟨#[]⟩, .bool false, .slice none 0 0] 32)).keep hk2)
  have GB1 := Lib.hid ((HB1.out.alloc (.cells #[.string ⟨#[]⟩, .string ⟨#[]⟩, .bool false, .slice none 0 0] 32)).keep hk2)
  have GBP := Lib.hid (BP.out.keep hk2)
  have K2 := Lib.hid ((K1.out.alloc (.cells #[.string ⟨#[]⟩, .string ⟨#[]⟩, .bool false, .slice none 0 0] 32)).trans hk2)
  have KB := Lib.hid ((KA.out.alloc (.cells #[.string ⟨#[]⟩, .string ⟨#[]⟩, .bool false, .slice none 0 0] 32)).trans hk2)
  have cc0 := GB0.out.cells
  have cc1 := GB1.out.cells
  have ccp := GBP.out.cells
  have ff0 := GB0.out.thawed
  have ff1 := GB1.out.thawed
  have ffp := GBP.out.thawed
  have dt1' := hk2.cellOf (dt1 _)
  clear c0 c1 f0 f1 dt0 dt1 hp1 hone hk2 CI
  obtain ⟨ax0, ax1, _, _⟩ := hcell 2 x hx
  rw [show off + 2 * 4 = off + 8 from rfl] at ax0 ax1
  have dx0 := KB.out.cellOf ax0
  have dx1 := KB.out.cellOf ax1
  clear ax0 ax1
  have q7n : 2 < ts.length := (List.getElem?_eq_some_iff.1 hx).1
  have q5 : ((ts.length : Int) == 2) = false := beq_eq_false_iff_ne.2 (by have := EQ.out; omega)
  have q6 : ((2 : Int) == (ts.length : Int)) = false := beq_eq_false_iff_ne.2 (by have := EQ.out; omega)
  have q7 : (2 : Int) < (ts.length : Int) := by have := (List.getElem?_eq_some_iff.1 hx).1; omega
  have q8 : ((3 : Int) == (ts.length : Int)) = true := beq_iff_eq.2 (by have := EQ.out; omega)
  clear hcell
  rcases h14 with h14 | h14
  · have k1 : (x.kind != 1) = false := by rw [h14]; rfl
    have k4 : (x.kind != 4) = true := by rw [h14]; rfl
    have k4b : (x.kind == 4) = false := by rw [h14]; rfl
    have HN2 : Hid (lineL ts = .ok ⟨t.text, x.text, false, []⟩) := Lib.hid (by rw [HN.out, h14]; rfl)
    go_wp2_with (fail)
    refine ret_out (w := w) (base := w.heap.size) (v := .slice none 0 0) (out := []) (b := w.heap.size) (vs := #[.string t.text, .string x.text, .bool false, .slice none 0 0]) (c := w.heap.size + 1) (us := #[.string ⟨#[]⟩, .int .i64 0, .int .i64 0]) ?_ ?_ ?_ ?_ ?_
    · apply Box.conv
      · repeat (first | with_reducible exact GB0.out | with_reducible apply Box.drew | with_reducible apply Box.set | apply Box.past n01 | apply Box.past n0p)
      · rfl
    · apply Box.conv
      · repeat (first | with_reducible exact GB1.out | with_reducible apply Box.drew | with_reducible apply Box.set | apply Box.past n10 | apply Box.past n1p)
      · rfl
    · repeat (first | with_reducible refine Keep.drew ?_ | (with_reducible refine Keep.setAt ?_ ?_ _; · omega))
      exact K2.out
    · exact OutAt.nil _ _
    intro W' hB hC hK hO
    have cB := hB.cells
    have cC := hC.cells
    refine bodyPost_ret (v := .tuple #[.agg #[.string t.text, .string x.text, .bool false, .slice none 0 0], .agg #[.string ⟨#[]⟩, .int .i64 0, .int .i64 0]]) (by simp [results, Tryz.results6, go_sem, cB, cC]; done) rfl ⟨ParR.ok HL.out HN2.out hO, hK⟩
  · have k1 : (x.kind != 1) = true := by rw [h14]; rfl
    have k4 : (x.kind != 4) = false := by rw [h14]; rfl
    have k4b : (x.kind == 4) = true := by rw [h14]; rfl
    have HN2 : Hid (lineL ts = .ok ⟨t.text, x.text, true, []⟩) := Lib.hid (by rw [HN.out, h14]; rfl)
    go_wp2_with (fail)
    refine ret_out (w := w) (base := w.heap.size) (v := .slice none 0 0) (out := []) (b := w.heap.size) (vs := #[.string t.text, .string x.text, .bool true, .slice none 0 0]) (c := w.heap.size + 1) (us := #[.string ⟨#[]⟩, .int .i64 0, .int .i64 0]) ?_ ?_ ?_ ?_ ?_
    · apply Box.conv
      · repeat (first | with_reducible exact GB0.out | with_reducible apply Box.drew | with_reducible apply Box.set | apply Box.past n01 | apply Box.past n0p)
      · rfl
    · apply Box.conv
      · repeat (first | with_reducible exact GB1.out | with_reducible apply Box.drew | with_reducible apply Box.set | apply Box.past n10 | apply Box.past n1p)
      · rfl
    · repeat (first | with_reducible refine Keep.drew ?_ | (with_reducible refine Keep.setAt ?_ ?_ _; · omega))
      exact K2.out
    · exact OutAt.nil _ _
    intro W' hB hC hK hO
    have cB := hB.cells
    have cC := hC.cells
    refine bodyPost_ret (v := .tuple #[.agg #[.string t.text, .string x.text, .bool true, .slice none 0 0], .agg #[.string ⟨#[]⟩, .int .i64 0, .int .i64 0]]) (by simp [results, Tryz.results6, go_sem, cB, cC]; done) rfl ⟨ParR.ok HL.out HN2.out hO, hK⟩
set_option maxHeartbeats 2000000 in
set_option maxRecDepth 100000 in
theorem rparse_P5R4 (s : ByteArray) (hs : s.size ≤ 10000) (w : World) {ts : List Tok} (hl : lexL s.data.toList 0 = .ok ts) (t : Tok) (ht : ts[0]? = some t) (e1 : 1 < ts.length) (hk : t.kind = 1) (hc : isSg ts 1 sColon = true) (hr : regL [t] = none) (x : Tok) (hx : ts[2]? = some x) (h14 : x.kind = 1 ∨ x.kind = 4) (e3 : 3 < ts.length) (p : Nat) (ho : opsL (ts.drop 3) 3 [] [] 0 = .error p) (hLine : lineL ts = .error (p, 11)) : Calls Tryz.prog 6 #[.string s] w fun e w' => ParR s.data.toList w e w' ∧ Keep w w' := by
  have HL := Lib.hid hl
  have HN := Lib.hid hLine
  have few : ts.length ≤ 10000 := by have := (lexL_toks _ _ _ _ (Nat.le_refl _) hl).2; simp at this; omega
  have CL := Lib.hid (fun W => rlex_any s (by omega) W)
  clear hl hLine
  go_enter Tryz.func6, Tryz.ntmps6
  go_wp2_with fail
  have B0 : Box ((w.alloc (.cells #[.string ⟨#[]⟩, .string ⟨#[]⟩, .bool false, .slice none 0 0] 32)).alloc (.cells #[.string ⟨#[]⟩, .int .i64 0, .int .i64 0] 34)) w.heap.size #[.string ⟨#[]⟩, .string ⟨#[]⟩, .bool false, .slice none 0 0] := (Box.new _ _ _).alloc _
  have B1 : Box ((w.alloc (.cells #[.string ⟨#[]⟩, .string ⟨#[]⟩, .bool false, .slice none 0 0] 32)).alloc (.cells #[.string ⟨#[]⟩, .int .i64 0, .int .i64 0] 34)) (w.heap.size + 1) #[.string ⟨#[]⟩, .int .i64 0, .int .i64 0] := Box.new1 _ _ _ _
  have K0 : Keep w ((w.alloc (.cells #[.string ⟨#[]⟩, .string ⟨#[]⟩, .bool false, .slice none 0 0] 32)).alloc (.cells #[.string ⟨#[]⟩, .int .i64 0, .int .i64 0] 34)) := ((Keep.refl w).alloc _).alloc _
  refine (CL.out _).mono ?_
  intro e w1 h
  unfold LexR at h
  rw [HL.out] at h
  obtain ⟨v, rfl, hown, hk⟩ := h
  have TT := own_toks hown
  have HB0 := Lib.hid ((B0.keep hk).alloc (.cells #[.string ⟨#[]⟩, .int .i64 0, .int .i64 0] 34))
  have HB1 := Lib.hid ((B1.keep hk).alloc (.cells #[.string ⟨#[]⟩, .int .i64 0, .int .i64 0] 34))
  have K1 := Lib.hid ((K0.trans hk).alloc (.cells #[.string ⟨#[]⟩, .int .i64 0, .int .i64 0] 34))
  have KA := Lib.hid ((Keep.refl w1).alloc (.cells #[.string ⟨#[]⟩, .int .i64 0, .int .i64 0] 34))
  have BP := Lib.hid (Box.new1 w1 (.cells #[.string ⟨#[]⟩, .int .i64 0, .int .i64 0] 34) #[.string ⟨#[]⟩, .string ⟨#[]⟩, .bool false, .slice none 0 0] 32)
  have lt : w.heap.size + 1 < w1.heap.size := (B1.keep hk).lt
  have n01 : w.heap.size ≠ w.heap.size + 1 := by omega
  have n10 : w.heap.size + 1 ≠ w.heap.size := by omega
  have n0p : w.heap.size ≠ w1.heap.size + 1 := by omega
  have n1p : w.heap.size + 1 ≠ w1.heap.size + 1 := by omega
  have np0 : w1.heap.size + 1 ≠ w.heap.size := by omega
  have np1 : w1.heap.size + 1 ≠ w.heap.size + 1 := by omega
  have c0 := fun o => (HB0.out.alloc o).cells
  have c1 := fun o => (HB1.out.alloc o).cells
  have f0 := fun o => (HB0.out.alloc o).thawed
  have f1 := fun o => (HB1.out.alloc o).thawed
  have HT1 := Lib.hid TT
  clear hk hown B0 B1 K0
  obtain ⟨p_, cap, rfl, hcap, htk⟩ := TT
  rcases htk with h0 | ⟨b, off, rfl, hb, hcell⟩
  · rw [h0] at ht; simp at ht
  have nb0 : ¬ b = w1.heap.size := by omega
  have nbp : ¬ b = w1.heap.size + 1 := by omega
  obtain ⟨at0, at1, _, _⟩ := hcell 0 t ht
  rw [Nat.zero_mul, Nat.add_zero] at at0 at1
  have dt0 := fun o => (((Keep.refl w1).alloc (.cells #[.string ⟨#[]⟩, .int .i64 0, .int .i64 0] 34)).alloc o).cellOf at0
  have dt1 := fun o => (((Keep.refl w1).alloc (.cells #[.string ⟨#[]⟩, .int .i64 0, .int .i64 0] 34)).alloc o).cellOf at1
  clear at0 at1
  have q1 : (1 : Int) < (ts.length : Int) := by omega
  have q2 : (t.kind == 1) = true := by simpa using hk
  have CI := Lib.hid (fun W h => ris_any (.slice (some ⟨b, off, none⟩) ts.length cap) ts (by omega) 1 1 rfl sColon W h)
  rw [hc] at CI
  unfold sColon at CI
  unfold okV wrongV
  have one1 : (1 : Int) ≤ (cap : Int) := by omega
  go_wp2_with ((with_reducible refine (CI.out _ (HT1.out.keep (KA.out.alloc _))).mono ?_); rintro e w' ⟨rfl, rfl⟩)
  have hp1 := (HT1.out.keep (KA.out.alloc (.cells #[.string ⟨#[]⟩, .string ⟨#[]⟩, .bool false, .slice none 0 0] 32))).part 0 1 (by omega) (some ⟨b, off, none⟩) cap (fun _ => ⟨b, off, rfl, rfl⟩) (by omega)
  have hone : (ts.drop 0).take 1 = [t] := by
    cases ts with
    | nil => simp at ht
    | cons y l => simp at ht; subst ht; rfl
  rw [hone] at hp1
  refine (rreg_any _ [t] (by simp) _ hp1).mono ?_
  rintro e w2 ⟨rfl, hk2⟩
  rw [hr]
  unfold regV
  have GB0 := Lib.hid ((HB0.out.alloc (.cells #[.string ⟨#[]⟩, .string ⟨#[]⟩, .bool false, .slice none 0 0] 32)).keep hk2)
  have GB1 := Lib.hid ((HB1.out.alloc (.cells #[.string ⟨#[]⟩, .string ⟨#[]⟩, .bool false, .slice none 0 0] 32)).keep hk2)
  have GBP := Lib.hid (BP.out.keep hk2)
  have K2 := Lib.hid ((K1.out.alloc (.cells #[.string ⟨#[]⟩, .string ⟨#[]⟩, .bool false, .slice none 0 0] 32)).trans hk2)
  have KB := Lib.hid ((KA.out.alloc (.cells #[.string ⟨#[]⟩, .string ⟨#[]⟩, .bool false, .slice none 0 0] 32)).trans hk2)
  have cc0 := GB0.out.cells
  have cc1 := GB1.out.cells
  have ccp := GBP.out.cells
  have ff0 := GB0.out.thawed
  have ff1 := GB1.out.thawed
  have ffp := GBP.out.thawed
  have dt1' := hk2.cellOf (dt1 _)
  clear c0 c1 f0 f1 dt0 dt1 hp1 hone hk2 CI
  obtain ⟨ax0, ax1, _, _⟩ := hcell 2 x hx
  rw [show off + 2 * 4 = off + 8 from rfl] at ax0 ax1
  have dx0 := KB.out.cellOf ax0
  have dx1 := KB.out.cellOf ax1
  clear ax0 ax1
  have q7n : 2 < ts.length := (List.getElem?_eq_some_iff.1 hx).1
  have q5 : ((ts.length : Int) == 2) = false := beq_eq_false_iff_ne.2 (by omega)
  have q6 : ((2 : Int) == (ts.length : Int)) = false := beq_eq_false_iff_ne.2 (by omega)
  have q7 : (2 : Int) < (ts.length : Int) := by have := (List.getElem?_eq_some_iff.1 hx).1; omega
  have q8 : ((3 : Int) == (ts.length : Int)) = false := beq_eq_false_iff_ne.2 (by omega)
  clear hcell
  rcases h14 with h14 | h14
  · have k1 : (x.kind != 1) = false := by rw [h14]; rfl
    have k4 : (x.kind != 4) = true := by rw [h14]; rfl
    have k4b : (x.kind == 4) = false := by rw [h14]; rfl
    have HN2 := HN
    go_wp2_with (fail)
    refine calls_past (w := w) (w1 := w1) (b := w.heap.size) (vs := #[.string ⟨#[]⟩, .string ⟨#[]⟩, .bool false, .slice none 0 0]) (c := w.heap.size + 1) (us := #[.string ⟨#[]⟩, .int .i64 0, .int .i64 0]) (d := w1.heap.size + 1) (ts := #[.string t.text, .string x.text, .bool false, .slice none 0 0]) ?_ ?_ ?_ ?_ ?_ ?_
    · apply Box.conv
      · repeat (first | with_reducible exact GB0.out | with_reducible apply Box.drew | with_reducible apply Box.set | apply Box.past n0p)
      · rfl
    · apply Box.conv
      · repeat (first | with_reducible exact GB1.out | with_reducible apply Box.drew | with_reducible apply Box.set | apply Box.past n1p)
      · rfl
    · apply Box.conv
      · repeat (first | with_reducible exact GBP.out | with_reducible apply Box.drew | with_reducible apply Box.set | apply Box.past np0)
      · rfl
    · repeat (first | with_reducible refine Keep.drew ?_ | (with_reducible refine Keep.setAt ?_ ?_ _; · omega))
      exact K2.out
    · repeat (first | with_reducible refine Keep.drew ?_ | (with_reducible refine Keep.setAt ?_ ?_ _; · omega))
      exact KB.out
    intro W3 D0 D1 DP E0 E1
    refine (roperands_any _ ts (by omega) 3 (by omega) W3 (HT1.out.keep E1)).mono ?_
    rintro e w4 ⟨hop, hk4⟩
    unfold OpsR at hop
    rw [ho] at hop
    subst hop
    have M0 := Lib.hid (D0.keep hk4)
    have M1 := Lib.hid (D1.keep hk4)
    have MP := Lib.hid (DP.keep hk4)
    have K4 := Lib.hid (E0.trans hk4)
    have l3 : w1.heap.size + 1 < W3.heap.size := DP.lt
    have l4 : w.heap.size ≤ W3.heap.size := E0.size
    have m0 := M0.out.cells
    have m1 := M1.out.cells
    have mp := MP.out.cells
    have g0 := M0.out.thawed
    have g1 := M1.out.thawed
    have gp := MP.out.thawed
    clear hk4 D0 D1 DP E0 E1
    go_wp2_with fail
    refine ret_out (w := w) (base := w.heap.size) (v := .slice none 0 0) (out := []) (b := w.heap.size) (vs := #[.string ⟨#[]⟩, .string ⟨#[]⟩, .bool false, .slice none 0 0]) (c := w.heap.size + 1) (us := #[.string ⟨#[116, 111, 107, 101, 110]⟩, .int .i64 p, .int .i64 11]) ?_ ?_ ?_ ?_ ?_
    · apply Box.conv
      · repeat (first | with_reducible exact M0.out | with_reducible apply Box.drew | with_reducible apply Box.set | apply Box.past n01 | apply Box.past n0p)
      · rfl
    · apply Box.conv
      · repeat (first | with_reducible exact M1.out | with_reducible apply Box.drew | with_reducible apply Box.set | apply Box.past n10 | apply Box.past n1p)
      · rfl
    · repeat (first | with_reducible refine Keep.drew ?_ | (with_reducible refine Keep.setAt ?_ ?_ _; · omega))
      exact K4.out
    · exact OutAt.nil _ _
    intro W' hB hC hK hO
    have cB := hB.cells
    have cC := hC.cells
    refine bodyPost_ret (v := .tuple #[.agg #[.string ⟨#[]⟩, .string ⟨#[]⟩, .bool false, .slice none 0 0], .agg #[.string ⟨#[116, 111, 107, 101, 110]⟩, .int .i64 p, .int .i64 11]]) (by simp [results, Tryz.results6, go_sem, cB, cC]; done) rfl ⟨ParR.bad HL.out HN2.out, hK⟩
  · have k1 : (x.kind != 1) = true := by rw [h14]; rfl
    have k4 : (x.kind != 4) = false := by rw [h14]; rfl
    have k4b : (x.kind == 4) = true := by rw [h14]; rfl
    have HN2 := HN
    go_wp2_with (fail)
    refine calls_past (w := w) (w1 := w1) (b := w.heap.size) (vs := #[.string ⟨#[]⟩, .string ⟨#[]⟩, .bool false, .slice none 0 0]) (c := w.heap.size + 1) (us := #[.string ⟨#[]⟩, .int .i64 0, .int .i64 0]) (d := w1.heap.size + 1) (ts := #[.string t.text, .string x.text, .bool true, .slice none 0 0]) ?_ ?_ ?_ ?_ ?_ ?_
    · apply Box.conv
      · repeat (first | with_reducible exact GB0.out | with_reducible apply Box.drew | with_reducible apply Box.set | apply Box.past n0p)
      · rfl
    · apply Box.conv
      · repeat (first | with_reducible exact GB1.out | with_reducible apply Box.drew | with_reducible apply Box.set | apply Box.past n1p)
      · rfl
    · apply Box.conv
      · repeat (first | with_reducible exact GBP.out | with_reducible apply Box.drew | with_reducible apply Box.set | apply Box.past np0)
      · rfl
    · repeat (first | with_reducible refine Keep.drew ?_ | (with_reducible refine Keep.setAt ?_ ?_ _; · omega))
      exact K2.out
    · repeat (first | with_reducible refine Keep.drew ?_ | (with_reducible refine Keep.setAt ?_ ?_ _; · omega))
      exact KB.out
    intro W3 D0 D1 DP E0 E1
    refine (roperands_any _ ts (by omega) 3 (by omega) W3 (HT1.out.keep E1)).mono ?_
    rintro e w4 ⟨hop, hk4⟩
    unfold OpsR at hop
    rw [ho] at hop
    subst hop
    have M0 := Lib.hid (D0.keep hk4)
    have M1 := Lib.hid (D1.keep hk4)
    have MP := Lib.hid (DP.keep hk4)
    have K4 := Lib.hid (E0.trans hk4)
    have l3 : w1.heap.size + 1 < W3.heap.size := DP.lt
    have l4 : w.heap.size ≤ W3.heap.size := E0.size
    have m0 := M0.out.cells
    have m1 := M1.out.cells
    have mp := MP.out.cells
    have g0 := M0.out.thawed
    have g1 := M1.out.thawed
    have gp := MP.out.thawed
    clear hk4 D0 D1 DP E0 E1
    go_wp2_with fail
    refine ret_out (w := w) (base := w.heap.size) (v := .slice none 0 0) (out := []) (b := w.heap.size) (vs := #[.string ⟨#[]⟩, .string ⟨#[]⟩, .bool false, .slice none 0 0]) (c := w.heap.size + 1) (us := #[.string ⟨#[116, 111, 107, 101, 110]⟩, .int .i64 p, .int .i64 11]) ?_ ?_ ?_ ?_ ?_
    · apply Box.conv
      · repeat (first | with_reducible exact M0.out | with_reducible apply Box.drew | with_reducible apply Box.set | apply Box.past n01 | apply Box.past n0p)
      · rfl
    · apply Box.conv
      · repeat (first | with_reducible exact M1.out | with_reducible apply Box.drew | with_reducible apply Box.set | apply Box.past n10 | apply Box.past n1p)
      · rfl
    · repeat (first | with_reducible refine Keep.drew ?_ | (with_reducible refine Keep.setAt ?_ ?_ _; · omega))
      exact K4.out
    · exact OutAt.nil _ _
    intro W' hB hC hK hO
    have cB := hB.cells
    have cC := hC.cells
    refine bodyPost_ret (v := .tuple #[.agg #[.string ⟨#[]⟩, .string ⟨#[]⟩, .bool false, .slice none 0 0], .agg #[.string ⟨#[116, 111, 107, 101, 110]⟩, .int .i64 p, .int .i64 11]]) (by simp [results, Tryz.results6, go_sem, cB, cC]; done) rfl ⟨ParR.bad HL.out HN2.out, hK⟩
set_option maxHeartbeats 2000000 in
set_option maxRecDepth 100000 in
theorem rparse_P5R5 (s : ByteArray) (hs : s.size ≤ 10000) (w : World) {ts : List Tok} (hl : lexL s.data.toList 0 = .ok ts) (t : Tok) (ht : ts[0]? = some t) (e1 : 1 < ts.length) (hk : t.kind = 1) (hc : isSg ts 1 sColon = true) (hr : regL [t] = none) (x : Tok) (hx : ts[2]? = some x) (h14 : x.kind = 1 ∨ x.kind = 4) (e3 : 3 < ts.length) (out : List (List Tok)) (ho : opsL (ts.drop 3) 3 [] [] 0 = .ok out) (hLine : lineL ts = .ok ⟨t.text, x.text, decide (x.kind = 4), out⟩) : Calls Tryz.prog 6 #[.string s] w fun e w' => ParR s.data.toList w e w' ∧ Keep w w' := by
  have HL := Lib.hid hl
  have HN := Lib.hid hLine
  have few : ts.length ≤ 10000 := by have := (lexL_toks _ _ _ _ (Nat.le_refl _) hl).2; simp at this; omega
  have CL := Lib.hid (fun W => rlex_any s (by omega) W)
  clear hl hLine
  go_enter Tryz.func6, Tryz.ntmps6
  go_wp2_with fail
  have B0 : Box ((w.alloc (.cells #[.string ⟨#[]⟩, .string ⟨#[]⟩, .bool false, .slice none 0 0] 32)).alloc (.cells #[.string ⟨#[]⟩, .int .i64 0, .int .i64 0] 34)) w.heap.size #[.string ⟨#[]⟩, .string ⟨#[]⟩, .bool false, .slice none 0 0] := (Box.new _ _ _).alloc _
  have B1 : Box ((w.alloc (.cells #[.string ⟨#[]⟩, .string ⟨#[]⟩, .bool false, .slice none 0 0] 32)).alloc (.cells #[.string ⟨#[]⟩, .int .i64 0, .int .i64 0] 34)) (w.heap.size + 1) #[.string ⟨#[]⟩, .int .i64 0, .int .i64 0] := Box.new1 _ _ _ _
  have K0 : Keep w ((w.alloc (.cells #[.string ⟨#[]⟩, .string ⟨#[]⟩, .bool false, .slice none 0 0] 32)).alloc (.cells #[.string ⟨#[]⟩, .int .i64 0, .int .i64 0] 34)) := ((Keep.refl w).alloc _).alloc _
  refine (CL.out _).mono ?_
  intro e w1 h
  unfold LexR at h
  rw [HL.out] at h
  obtain ⟨v, rfl, hown, hk⟩ := h
  have TT := own_toks hown
  have HB0 := Lib.hid ((B0.keep hk).alloc (.cells #[.string ⟨#[]⟩, .int .i64 0, .int .i64 0] 34))
  have HB1 := Lib.hid ((B1.keep hk).alloc (.cells #[.string ⟨#[]⟩, .int .i64 0, .int .i64 0] 34))
  have K1 := Lib.hid ((K0.trans hk).alloc (.cells #[.string ⟨#[]⟩, .int .i64 0, .int .i64 0] 34))
  have KA := Lib.hid ((Keep.refl w1).alloc (.cells #[.string ⟨#[]⟩, .int .i64 0, .int .i64 0] 34))
  have BP := Lib.hid (Box.new1 w1 (.cells #[.string ⟨#[]⟩, .int .i64 0, .int .i64 0] 34) #[.string ⟨#[]⟩, .string ⟨#[]⟩, .bool false, .slice none 0 0] 32)
  have lt : w.heap.size + 1 < w1.heap.size := (B1.keep hk).lt
  have n01 : w.heap.size ≠ w.heap.size + 1 := by omega
  have n10 : w.heap.size + 1 ≠ w.heap.size := by omega
  have n0p : w.heap.size ≠ w1.heap.size + 1 := by omega
  have n1p : w.heap.size + 1 ≠ w1.heap.size + 1 := by omega
  have np0 : w1.heap.size + 1 ≠ w.heap.size := by omega
  have np1 : w1.heap.size + 1 ≠ w.heap.size + 1 := by omega
  have c0 := fun o => (HB0.out.alloc o).cells
  have c1 := fun o => (HB1.out.alloc o).cells
  have f0 := fun o => (HB0.out.alloc o).thawed
  have f1 := fun o => (HB1.out.alloc o).thawed
  have HT1 := Lib.hid TT
  clear hk hown B0 B1 K0
  obtain ⟨p_, cap, rfl, hcap, htk⟩ := TT
  rcases htk with h0 | ⟨b, off, rfl, hb, hcell⟩
  · rw [h0] at ht; simp at ht
  have nb0 : ¬ b = w1.heap.size := by omega
  have nbp : ¬ b = w1.heap.size + 1 := by omega
  obtain ⟨at0, at1, _, _⟩ := hcell 0 t ht
  rw [Nat.zero_mul, Nat.add_zero] at at0 at1
  have dt0 := fun o => (((Keep.refl w1).alloc (.cells #[.string ⟨#[]⟩, .int .i64 0, .int .i64 0] 34)).alloc o).cellOf at0
  have dt1 := fun o => (((Keep.refl w1).alloc (.cells #[.string ⟨#[]⟩, .int .i64 0, .int .i64 0] 34)).alloc o).cellOf at1
  clear at0 at1
  have q1 : (1 : Int) < (ts.length : Int) := by omega
  have q2 : (t.kind == 1) = true := by simpa using hk
  have CI := Lib.hid (fun W h => ris_any (.slice (some ⟨b, off, none⟩) ts.length cap) ts (by omega) 1 1 rfl sColon W h)
  rw [hc] at CI
  unfold sColon at CI
  unfold okV wrongV
  have one1 : (1 : Int) ≤ (cap : Int) := by omega
  go_wp2_with ((with_reducible refine (CI.out _ (HT1.out.keep (KA.out.alloc _))).mono ?_); rintro e w' ⟨rfl, rfl⟩)
  have hp1 := (HT1.out.keep (KA.out.alloc (.cells #[.string ⟨#[]⟩, .string ⟨#[]⟩, .bool false, .slice none 0 0] 32))).part 0 1 (by omega) (some ⟨b, off, none⟩) cap (fun _ => ⟨b, off, rfl, rfl⟩) (by omega)
  have hone : (ts.drop 0).take 1 = [t] := by
    cases ts with
    | nil => simp at ht
    | cons y l => simp at ht; subst ht; rfl
  rw [hone] at hp1
  refine (rreg_any _ [t] (by simp) _ hp1).mono ?_
  rintro e w2 ⟨rfl, hk2⟩
  rw [hr]
  unfold regV
  have GB0 := Lib.hid ((HB0.out.alloc (.cells #[.string ⟨#[]⟩, .string ⟨#[]⟩, .bool false, .slice none 0 0] 32)).keep hk2)
  have GB1 := Lib.hid ((HB1.out.alloc (.cells #[.string ⟨#[]⟩, .string ⟨#[]⟩, .bool false, .slice none 0 0] 32)).keep hk2)
  have GBP := Lib.hid (BP.out.keep hk2)
  have K2 := Lib.hid ((K1.out.alloc (.cells #[.string ⟨#[]⟩, .string ⟨#[]⟩, .bool false, .slice none 0 0] 32)).trans hk2)
  have KB := Lib.hid ((KA.out.alloc (.cells #[.string ⟨#[]⟩, .string ⟨#[]⟩, .bool false, .slice none 0 0] 32)).trans hk2)
  have cc0 := GB0.out.cells
  have cc1 := GB1.out.cells
  have ccp := GBP.out.cells
  have ff0 := GB0.out.thawed
  have ff1 := GB1.out.thawed
  have ffp := GBP.out.thawed
  have dt1' := hk2.cellOf (dt1 _)
  clear c0 c1 f0 f1 dt0 dt1 hp1 hone hk2 CI
  obtain ⟨ax0, ax1, _, _⟩ := hcell 2 x hx
  rw [show off + 2 * 4 = off + 8 from rfl] at ax0 ax1
  have dx0 := KB.out.cellOf ax0
  have dx1 := KB.out.cellOf ax1
  clear ax0 ax1
  have q7n : 2 < ts.length := (List.getElem?_eq_some_iff.1 hx).1
  have q5 : ((ts.length : Int) == 2) = false := beq_eq_false_iff_ne.2 (by omega)
  have q6 : ((2 : Int) == (ts.length : Int)) = false := beq_eq_false_iff_ne.2 (by omega)
  have q7 : (2 : Int) < (ts.length : Int) := by have := (List.getElem?_eq_some_iff.1 hx).1; omega
  have q8 : ((3 : Int) == (ts.length : Int)) = false := beq_eq_false_iff_ne.2 (by omega)
  clear hcell
  rcases h14 with h14 | h14
  · have k1 : (x.kind != 1) = false := by rw [h14]; rfl
    have k4 : (x.kind != 4) = true := by rw [h14]; rfl
    have k4b : (x.kind == 4) = false := by rw [h14]; rfl
    have HN2 : Hid (lineL ts = .ok ⟨t.text, x.text, false, out⟩) := Lib.hid (by rw [HN.out, h14]; rfl)
    go_wp2_with (fail)
    refine calls_past (w := w) (w1 := w1) (b := w.heap.size) (vs := #[.string ⟨#[]⟩, .string ⟨#[]⟩, .bool false, .slice none 0 0]) (c := w.heap.size + 1) (us := #[.string ⟨#[]⟩, .int .i64 0, .int .i64 0]) (d := w1.heap.size + 1) (ts := #[.string t.text, .string x.text, .bool false, .slice none 0 0]) ?_ ?_ ?_ ?_ ?_ ?_
    · apply Box.conv
      · repeat (first | with_reducible exact GB0.out | with_reducible apply Box.drew | with_reducible apply Box.set | apply Box.past n0p)
      · rfl
    · apply Box.conv
      · repeat (first | with_reducible exact GB1.out | with_reducible apply Box.drew | with_reducible apply Box.set | apply Box.past n1p)
      · rfl
    · apply Box.conv
      · repeat (first | with_reducible exact GBP.out | with_reducible apply Box.drew | with_reducible apply Box.set | apply Box.past np0)
      · rfl
    · repeat (first | with_reducible refine Keep.drew ?_ | (with_reducible refine Keep.setAt ?_ ?_ _; · omega))
      exact K2.out
    · repeat (first | with_reducible refine Keep.drew ?_ | (with_reducible refine Keep.setAt ?_ ?_ _; · omega))
      exact KB.out
    intro W3 D0 D1 DP E0 E1
    refine (roperands_any _ ts (by omega) 3 (by omega) W3 (HT1.out.keep E1)).mono ?_
    rintro e w4 ⟨hop, hk4⟩
    unfold OpsR at hop
    rw [ho] at hop
    obtain ⟨v5, rfl, hO5⟩ := hop
    obtain ⟨po, co, rfl⟩ := OutAt.slice hO5
    have OUT := Lib.hid hO5
    have M0 := Lib.hid (D0.keep hk4)
    have M1 := Lib.hid (D1.keep hk4)
    have MP := Lib.hid (DP.keep hk4)
    have K4 := Lib.hid (E0.trans hk4)
    have l3 : w1.heap.size + 1 < W3.heap.size := DP.lt
    have l4 : w.heap.size ≤ W3.heap.size := E0.size
    have m0 := M0.out.cells
    have m1 := M1.out.cells
    have mp := MP.out.cells
    have g0 := M0.out.thawed
    have g1 := M1.out.thawed
    have gp := MP.out.thawed
    clear hk4 D0 D1 DP E0 E1 hO5
    unfold mOne
    go_wp2_with fail
    refine ret_out (w := w) (base := W3.heap.size) (v := (.slice po out.length co)) (out := out) (b := w.heap.size) (vs := #[.string t.text, .string x.text, .bool false, .slice po out.length co]) (c := w.heap.size + 1) (us := #[.string ⟨#[]⟩, .int .i64 0, .int .i64 0]) ?_ ?_ ?_ ?_ ?_
    · apply Box.conv
      · repeat (first | with_reducible exact M0.out | with_reducible apply Box.drew | with_reducible apply Box.set | apply Box.past n01 | apply Box.past n0p)
      · rfl
    · apply Box.conv
      · repeat (first | with_reducible exact M1.out | with_reducible apply Box.drew | with_reducible apply Box.set | apply Box.past n10 | apply Box.past n1p)
      · rfl
    · repeat (first | with_reducible refine Keep.drew ?_ | (with_reducible refine Keep.setAt ?_ ?_ _; · omega))
      exact K4.out
    · repeat (first | with_reducible refine OutAt.dr ?_ | (with_reducible refine OutAt.setOld ?_ ?_ _; rotate_left; · omega))
      exact OUT.out
    intro W' hB hC hK hO
    have cB := hB.cells
    have cC := hC.cells
    refine bodyPost_ret (v := .tuple #[.agg #[.string t.text, .string x.text, .bool false, .slice po out.length co], .agg #[.string ⟨#[]⟩, .int .i64 0, .int .i64 0]]) (by simp [results, Tryz.results6, go_sem, cB, cC]; done) rfl ⟨ParR.ok HL.out HN2.out (OutAt.base hO l4), hK⟩
  · have k1 : (x.kind != 1) = true := by rw [h14]; rfl
    have k4 : (x.kind != 4) = false := by rw [h14]; rfl
    have k4b : (x.kind == 4) = true := by rw [h14]; rfl
    have HN2 : Hid (lineL ts = .ok ⟨t.text, x.text, true, out⟩) := Lib.hid (by rw [HN.out, h14]; rfl)
    go_wp2_with (fail)
    refine calls_past (w := w) (w1 := w1) (b := w.heap.size) (vs := #[.string ⟨#[]⟩, .string ⟨#[]⟩, .bool false, .slice none 0 0]) (c := w.heap.size + 1) (us := #[.string ⟨#[]⟩, .int .i64 0, .int .i64 0]) (d := w1.heap.size + 1) (ts := #[.string t.text, .string x.text, .bool true, .slice none 0 0]) ?_ ?_ ?_ ?_ ?_ ?_
    · apply Box.conv
      · repeat (first | with_reducible exact GB0.out | with_reducible apply Box.drew | with_reducible apply Box.set | apply Box.past n0p)
      · rfl
    · apply Box.conv
      · repeat (first | with_reducible exact GB1.out | with_reducible apply Box.drew | with_reducible apply Box.set | apply Box.past n1p)
      · rfl
    · apply Box.conv
      · repeat (first | with_reducible exact GBP.out | with_reducible apply Box.drew | with_reducible apply Box.set | apply Box.past np0)
      · rfl
    · repeat (first | with_reducible refine Keep.drew ?_ | (with_reducible refine Keep.setAt ?_ ?_ _; · omega))
      exact K2.out
    · repeat (first | with_reducible refine Keep.drew ?_ | (with_reducible refine Keep.setAt ?_ ?_ _; · omega))
      exact KB.out
    intro W3 D0 D1 DP E0 E1
    refine (roperands_any _ ts (by omega) 3 (by omega) W3 (HT1.out.keep E1)).mono ?_
    rintro e w4 ⟨hop, hk4⟩
    unfold OpsR at hop
    rw [ho] at hop
    obtain ⟨v5, rfl, hO5⟩ := hop
    obtain ⟨po, co, rfl⟩ := OutAt.slice hO5
    have OUT := Lib.hid hO5
    have M0 := Lib.hid (D0.keep hk4)
    have M1 := Lib.hid (D1.keep hk4)
    have MP := Lib.hid (DP.keep hk4)
    have K4 := Lib.hid (E0.trans hk4)
    have l3 : w1.heap.size + 1 < W3.heap.size := DP.lt
    have l4 : w.heap.size ≤ W3.heap.size := E0.size
    have m0 := M0.out.cells
    have m1 := M1.out.cells
    have mp := MP.out.cells
    have g0 := M0.out.thawed
    have g1 := M1.out.thawed
    have gp := MP.out.thawed
    clear hk4 D0 D1 DP E0 E1 hO5
    unfold mOne
    go_wp2_with fail
    refine ret_out (w := w) (base := W3.heap.size) (v := (.slice po out.length co)) (out := out) (b := w.heap.size) (vs := #[.string t.text, .string x.text, .bool true, .slice po out.length co]) (c := w.heap.size + 1) (us := #[.string ⟨#[]⟩, .int .i64 0, .int .i64 0]) ?_ ?_ ?_ ?_ ?_
    · apply Box.conv
      · repeat (first | with_reducible exact M0.out | with_reducible apply Box.drew | with_reducible apply Box.set | apply Box.past n01 | apply Box.past n0p)
      · rfl
    · apply Box.conv
      · repeat (first | with_reducible exact M1.out | with_reducible apply Box.drew | with_reducible apply Box.set | apply Box.past n10 | apply Box.past n1p)
      · rfl
    · repeat (first | with_reducible refine Keep.drew ?_ | (with_reducible refine Keep.setAt ?_ ?_ _; · omega))
      exact K4.out
    · repeat (first | with_reducible refine OutAt.dr ?_ | (with_reducible refine OutAt.setOld ?_ ?_ _; rotate_left; · omega))
      exact OUT.out
    intro W' hB hC hK hO
    have cB := hB.cells
    have cC := hC.cells
    refine bodyPost_ret (v := .tuple #[.agg #[.string t.text, .string x.text, .bool true, .slice po out.length co], .agg #[.string ⟨#[]⟩, .int .i64 0, .int .i64 0]]) (by simp [results, Tryz.results6, go_sem, cB, cC]; done) rfl ⟨ParR.ok HL.out HN2.out (OutAt.base hO l4), hK⟩
theorem rparse_any (s : ByteArray) (hs : s.size ≤ 10000) (w : World) : Calls Tryz.prog 6 #[.string s] w fun e w' => ParR s.data.toList w e w' ∧ Keep w w' := by
  cases hl : lexL s.data.toList 0 with
  | error ix => exact rparse_lexbad s hs w (i := ix.1) (x := ix.2) hl
  | ok ts =>
    match ts, hl with
    | [], hl => exact rparse_P0R1 s hs w hl rfl rfl
    | [t], hl =>
      have hline : lineL [t] = if t.kind ≠ 1 ∧ t.kind ≠ 4 then .error (0, 11) else if 0 + 1 = [t].length then .ok ⟨noB, t.text, decide (t.kind = 4), []⟩ else match opsL ([t].drop (0 + 1)) (0 + 1) [] [] 0 with
        | .error p => .error (p, 11)
        | .ok a => .ok ⟨noB, t.text, decide (t.kind = 4), a⟩ := rfl
      by_cases hb : t.kind ≠ 1 ∧ t.kind ≠ 4
      · exact rparse_P1R2 s hs w hl t rfl rfl hb.1 hb.2 (by rw [hline, if_pos hb])
      · exact rparse_P1R3 s hs w hl t rfl rfl (by omega) rfl (by rw [hline, if_neg hb]; exact if_pos rfl)
    | t :: u :: r, hl =>
      have e1 : 1 < (t :: u :: r).length := by simp
      have hsg : isSg (t :: u :: r) 1 sColon = tokIs u sColon := rfl
      have hline : lineL (t :: u :: r) = if t.kind = 1 ∧ tokIs u sColon = true then (if (regL [t]).isSome = true then .error (0, 12) else restL (t :: u :: r) t.text 2) else restL (t :: u :: r) noB 0 := rfl
      by_cases hlab : t.kind = 1 ∧ tokIs u sColon = true
      · rw [if_pos hlab] at hline
        cases hr : regL [t] with
        | some n => exact rparse_P4 s hs w hl t rfl e1 hlab.1 (hsg.trans hlab.2) n hr (by rw [hline, hr]; rfl)
        | none =>
          rw [hr] at hline
          have hline : lineL (t :: u :: r) = restL (t :: u :: r) t.text 2 := hline
          match r, hl, e1, hsg, hline with
          | [], hl, e1, hsg, hline => exact rparse_P5R1 s hs w hl t rfl e1 hlab.1 (hsg.trans hlab.2) hr rfl hline
          | x :: r, hl, e1, hsg, hline =>
            have hrest : restL (t :: u :: x :: r) t.text 2 = if x.kind ≠ 1 ∧ x.kind ≠ 4 then .error (2, 11) else if 2 + 1 = (t :: u :: x :: r).length then .ok ⟨t.text, x.text, decide (x.kind = 4), []⟩ else match opsL ((t :: u :: x :: r).drop (2 + 1)) (2 + 1) [] [] 0 with
              | .error p => .error (p, 11)
              | .ok a => .ok ⟨t.text, x.text, decide (x.kind = 4), a⟩ := rfl
            rw [hrest] at hline
            by_cases hb : x.kind ≠ 1 ∧ x.kind ≠ 4
            · exact rparse_P5R2 s hs w hl t rfl e1 hlab.1 (hsg.trans hlab.2) hr x rfl hb.1 hb.2 (by rw [hline, if_pos hb])
            · rw [if_neg hb] at hline
              by_cases h3 : 2 + 1 = (t :: u :: x :: r).length
              · exact rparse_P5R3 s hs w hl t rfl e1 hlab.1 (hsg.trans hlab.2) hr x rfl (by omega) h3.symm (by rw [hline, if_pos h3])
              · rw [if_neg h3] at hline
                have h3' : 3 < (t :: u :: x :: r).length := by simp only [List.length_cons] at h3 ⊢; omega
                cases ho : opsL ((t :: u :: x :: r).drop 3) 3 [] [] 0 with
                | error p => exact rparse_P5R4 s hs w hl t rfl e1 hlab.1 (hsg.trans hlab.2) hr x rfl (by omega) h3' p ho (by rw [hline]; simp only [show 2 + 1 = 3 from rfl, ho])
                | ok out => exact rparse_P5R5 s hs w hl t rfl e1 hlab.1 (hsg.trans hlab.2) hr x rfl (by omega) h3' out ho (by rw [hline]; simp only [show 2 + 1 = 3 from rfl, ho])
      · rw [if_neg hlab] at hline
        have hrest : restL (t :: u :: r) noB 0 = if t.kind ≠ 1 ∧ t.kind ≠ 4 then .error (0, 11) else if 0 + 1 = (t :: u :: r).length then .ok ⟨noB, t.text, decide (t.kind = 4), []⟩ else match opsL ((t :: u :: r).drop (0 + 1)) (0 + 1) [] [] 0 with
          | .error p => .error (p, 11)
          | .ok a => .ok ⟨noB, t.text, decide (t.kind = 4), a⟩ := rfl
        rw [hrest] at hline
        by_cases hb : t.kind ≠ 1 ∧ t.kind ≠ 4
        · exact rparse_P2R2 s hs w hl t rfl e1 hb.1 hb.1 hb.2 (by rw [hline, if_pos hb])
        · rw [if_neg hb, if_neg (by simp only [List.length_cons]; omega)] at hline
          by_cases hk : t.kind = 1
          · have hc : isSg (t :: u :: r) 1 sColon = false := by
              rw [hsg]; cases d : tokIs u sColon with
              | false => rfl
              | true => exact absurd ⟨hk, d⟩ hlab
            cases ho : opsL ((t :: u :: r).drop 1) 1 [] [] 0 with
            | error p => exact rparse_P3R4 s hs w hl t rfl e1 hk hc (.inl hk) e1 p ho (by rw [hline]; simp only [show 0 + 1 = 1 from rfl, ho])
            | ok out => exact rparse_P3R5 s hs w hl t rfl e1 hk hc (.inl hk) e1 out ho (by rw [hline]; simp only [show 0 + 1 = 1 from rfl, ho]; rfl)
          · cases ho : opsL ((t :: u :: r).drop 1) 1 [] [] 0 with
            | error p => exact rparse_P2R4 s hs w hl t rfl e1 hk (.inr (by omega)) e1 p ho (by rw [hline]; simp only [show 0 + 1 = 1 from rfl, ho])
            | ok out => exact rparse_P2R5 s hs w hl t rfl e1 hk (.inr (by omega)) e1 out ho (by rw [hline]; simp only [show 0 + 1 = 1 from rfl, ho]; rfl)
end Go.Proofs.YtcdepfdfemmfhaaGreatDoor
