/- A region that draws its order, where some operations ('loose' ones, by number) have a value of which the world has its say, and may change what was there, by a relation R of the prover's. What the others yield they yield in every world that R leads to, and keep what was there: so they may go ahead of a loose one or behind it. -/
import Derived.Test.YtnnelghngekbpaaDoorGrow
import Derived.Test.YtnnelghngekbpaaDoorCapDef
namespace Go.Proofs.YtnnelghngekbpaaDoor.Rel
set_option linter.unusedVariables false
set_option linter.unusedSimpArgs false
open Go Go.RowKit
section
/-- What a loose operation may change: a way that goes on, and holds what is merely kept. -/
structure Way (R : World → World → Prop) : Prop where
  keep : ∀ {a b : World}, Keep a b → R a b
  trans : ∀ {a b c : World}, R a b → R b c → R a c
theorem Way.ofKeep : Way Keep := ⟨fun h => h, fun h k => h.trans k⟩
variable {P : Program} {ops : Array Oper} {md : Region.Mode} {Q : Act → World → Prop} {R : World → World → Prop}

/-- The operation gives some value and world that M holds of. -/
def Gives (P : Program) (M : Value → World → Prop) : Result Next → Prop
  | .ok (.value u) W => M u W
  | .ok .skip W => M undef W
  | .ok (.enter f args) W => Calls P f args W fun e W' => ∃ v, e = .returned v ∧ M v W'
  | _ => False
theorem Gives.mono {M M' : Value → World → Prop} {r : Result Next} (h : ∀ v W, M v W → M' v W) (hh : Gives P M r) : Gives P M' r := by
  cases r with
  | halt x W => exact hh.elim
  | ok n W =>
    cases n
    case value u => exact h _ _ hh
    case skip => exact h _ _ hh
    case enter f args => exact Calls.mono (show Calls P f args W _ from hh) fun e W' ⟨v, he, hm⟩ => ⟨v, he, h _ _ hm⟩
    all_goals exact hh.elim
theorem gives_value {M : Value → World → Prop} {u : Value} {W : World} (h : M u W) : Gives P M (.ok (.value u) W) := h
theorem gives_skip {M : Value → World → Prop} {W : World} (h : M undef W) : Gives P M (.ok .skip W) := h
theorem gives_enter {M : Value → World → Prop} {f : FuncId} {args : Array Value} {W : World} (h : Calls P f args W fun e W' => ∃ v, e = .returned v ∧ M v W') : Gives P M (.ok (.enter f args) W) := h
/-- Asked for: behind w it yields v wherever it is asked, and keeps what was there; not asked for: nothing. -/
def SureK (P : Program) (ops : Array Oper) (R : World → World → Prop) (w : World) (o : Oper) (v : Value) (a : Act) : Prop :=
  (Region.wanted o (yielded ops a.tmps) = true ∧ ∀ W, R w W → Yes P (Keep W) v ((execOp a.eval o).run P W)) ∨ (Region.wanted o (yielded ops a.tmps) = false ∧ v = undef)
theorem SureK.less (T : Way R) {w w' : World} {o : Oper} {v : Value} {a : Act} (h : R w w') (hs : SureK P ops R w o v a) : SureK P ops R w' o v a :=
  hs.imp (fun ⟨hw, hr⟩ => ⟨hw, fun W hk => hr W (T.trans h hk)⟩) id
theorem SureK.far {w : World} {o : Oper} {v : Value} {a : Act} (hs : ∀ cs b, o.op ≠ .select cs b) {d : Option Tmp} {u : Value} (h : ∀ x, d = some x → x ∉ o.looksAt ops) :
    SureK P ops R w o v (a.put d u) ↔ SureK P ops R w o v a := by
  unfold SureK
  rw [execOp_put o hs a d u h, wanted_put o a d u h]
/-- Asked for: wherever it is asked behind w it gives a value and a world, from which on K. -/
def LooseK (P : Program) (ops : Array Oper) (R : World → World → Prop) (w : World) (o : Oper) (K : World → Act → Prop) (a : Act) : Prop :=
  Region.wanted o (yielded ops a.tmps) = true ∧ ∀ W, Keep w W → Gives P (fun v W' => R W W' ∧ K W' (a.put o.dst v)) ((execOp a.eval o).run P W)
def stepK (P : Program) (ops : Array Oper) (R : World → World → Prop) (w : World) (i : Nat) (K : World → Act → Prop) (a : Act) : Prop :=
  match ops[i]? with
  | none => K w a
  | some o => (∃ v, SureK P ops R w o v a ∧ K w (a.put o.dst v)) ∨ LooseK P ops R w o K a
theorem stepK_some {w : World} {i : Nat} {o : Oper} {K : World → Act → Prop} {a : Act} (h : ops[i]? = some o) : stepK P ops R w i K a = ((∃ v, SureK P ops R w o v a ∧ K w (a.put o.dst v)) ∨ LooseK P ops R w o K a) := by
  simp only [stepK, h]
def everyK (P : Program) (md : Region.Mode) (ops : Array Oper) (R : World → World → Prop) (Q : Act → World → Prop) : Nat → Array Bool → World → Act → Prop
  | 0, listed, w, a => Region.ready md ops listed = [] ∧ ∀ W, Keep w W → Q a W
  | fuel + 1, listed, w, a => (Region.ready md ops listed = [] → ∀ W, Keep w W → Q a W) ∧ ∀ i ∈ Region.ready md ops listed, stepK P ops R w i (everyK P md ops R Q fuel (listed.setIfInBounds i true)) a
theorem oper_of_gives {o : Oper} {a : Act} {W : World} {M : Value → World → Prop} {K : Act → World → Prop} {Q' : Exit → Act → World → Prop} (h : Gives P M ((execOp a.eval o).run P W))
    (hK : ∀ v W', M v W' → K (a.put o.dst v) W') : o.wp P a W K Q' := by
  unfold Oper.wp
  generalize (execOp a.eval o).run P W = r at h ⊢
  cases r with
  | halt x W' => exact h.elim
  | ok n W' =>
    cases n
    case value u => exact hK _ _ h
    case skip => exact hK _ _ h
    case enter f args =>
      simp only [Oper.upon]
      refine Calls.mono (show Calls P f args W' _ from h) ?_
      rintro e W'' ⟨v, rfl, hM⟩
      exact hK _ _ hM
    all_goals exact h.elim
theorem everyK_sound (T : Way R) {Q' : Exit → Act → World → Prop} : ∀ (fuel : Nat) (listed : Array Bool) (w : World) (a : Act) (W : World), Keep w W → everyK P md ops R (fun a W => Q' .normal a W) fuel listed w a → wpAny P md ops Q' fuel listed a W
  | 0, _, _, _, _, hI, h => ⟨h.1, h.2 _ hI⟩
  | fuel + 1, listed, w, a, W, hI, h => by
    refine ⟨fun h0 => h.1 h0 _ hI, fun i hi => ?_⟩
    have h1 := h.2 i hi
    unfold stepK at h1
    unfold wpOp
    split at h1
    · rename_i ho
      simp only [ho]
      exact everyK_sound T fuel _ _ _ _ hI h1
    · rename_i o ho
      simp only [ho]
      rcases h1 with ⟨v, hs, hK⟩ | ⟨hw, hr⟩
      · rcases hs with ⟨hw, hr⟩ | ⟨hw, rfl⟩
        · simp only [hw, if_true]
          exact .inl (oper_of_sure (hr W (T.keep hI)) fun W' hI' => everyK_sound T fuel _ _ _ _ (hI.trans hI') hK)
        · simp only [hw]
          exact everyK_sound T fuel _ _ _ _ hI hK
      · simp only [hw, if_true]
        exact .inl (oper_of_gives (hr W hI) fun v W' hM => everyK_sound T fuel _ _ _ _ (Keep.refl _) hM.2)
theorem stepK_mono {w : World} {i : Nat} {a : Act} {K K' : World → Act → Prop} (h : ∀ w a, K w a → K' w a) (hh : stepK P ops R w i K a) : stepK P ops R w i K' a := by
  unfold stepK at *
  split
  · rename_i ho; simp only [ho] at hh; exact h _ _ hh
  · rename_i o ho
    simp only [ho] at hh
    rcases hh with ⟨v, hs, hk⟩ | ⟨hw, hr⟩
    · exact .inl ⟨v, hs, h _ _ hk⟩
    · exact .inr ⟨hw, fun W hI => (hr W hI).mono fun v W' ⟨h1, h2⟩ => ⟨h1, h _ _ h2⟩⟩
theorem stepK_swap (T : Way R) {w : World} {j : Nat} {oi oj : Oper} {v : Value} (hj : ops[j]? = some oj) (hap : oi.apart ops oj = true) (hsi : ∀ cs b, oi.op ≠ .select cs b) (hsj : ∀ cs b, oj.op ≠ .select cs b)
    {K : World → Act → Prop} {a : Act} (hy : SureK P ops R w oi v a) (h : stepK P ops R w j K (a.put oi.dst v)) : stepK P ops R w j (fun w' a' => SureK P ops R w' oi v a' ∧ K w' (a'.put oi.dst v)) a := by
  obtain ⟨h1, h2, h3⟩ := Oper.apart_spec hap
  rw [stepK_some hj] at h ⊢
  rcases h with ⟨u, hu, hk⟩ | ⟨hw, hr⟩
  · exact .inl ⟨u, (SureK.far hsj h1).1 hu, (SureK.far hsi h3).2 hy, by rw [← Act.put_comm a v u h2]; exact hk⟩
  · rw [wanted_put oj a oi.dst v h1] at hw
    rw [execOp_put oj hsj a oi.dst v h1] at hr
    refine .inr ⟨hw, fun W hI => (hr W hI).mono fun u W' ⟨hk, hK⟩ => ⟨hk, (SureK.far hsi h3).2 (hy.less T (T.trans (T.keep hI) hk)), ?_⟩⟩
    rw [← Act.put_comm a v u h2]
    exact hK
theorem everyK_first (T : Way R) {i : Nat} {oi : Oper} {v : Value} (hi : ops[i]? = some oi) (hsel : ∀ (j : Nat) (o : Oper) cs b, ops[j]? = some o → o.op ≠ .select cs b) :
    ∀ (fuel : Nat) (listed : Array Bool) (w : World) (a : Act),
      (∀ j oj, ops[j]? = some oj → j ≠ i → listed.getD j true = false → (∀ e ∈ oj.after, Region.binds md e = true → e.on ≠ i) → oi.apart ops oj = true) →
      i ∈ Region.ready md ops listed → SureK P ops R w oi v a → everyK P md ops R Q fuel (listed.setIfInBounds i true) w (a.put oi.dst v) → everyK P md ops R Q (fuel + 1) listed w a := by
  intro fuel
  induction fuel with
  | zero =>
    intro listed w a _ hr hy H
    refine ⟨fun h => absurd hr (by rw [h]; exact List.not_mem_nil), fun j hj => ?_⟩
    by_cases hji : j = i
    · subst hji; rw [stepK_some hi]; exact .inl ⟨v, hy, H⟩
    · have h0 := ready_mono hj hji
      rw [H.1] at h0
      exact absurd h0 List.not_mem_nil
  | succ fuel ih =>
    intro listed w a hfree hr hy H
    refine ⟨fun h => absurd hr (by rw [h]; exact List.not_mem_nil), fun j hj => ?_⟩
    by_cases hji : j = i
    · subst hji; rw [stepK_some hi]; exact .inl ⟨v, hy, H⟩
    · obtain ⟨hjun, oj, hoj, hall⟩ := mem_ready.1 hj
      have hnot : ∀ e ∈ oj.after, Region.binds md e = true → e.on ≠ i := by
        intro e he hb heq
        have ha := hall e he hb
        have h0 := (mem_ready.1 hr).1
        subst heq
        by_cases hlt : e.on < listed.size
        · simp [hlt] at h0 ha; rw [h0] at ha; cases ha
        · simp [hlt] at h0
      refine stepK_mono ?_ (stepK_swap T hoj (hfree j oj hoj hji hjun hnot) (fun cs b => hsel i oi cs b hi) (fun cs b => hsel j oj cs b hoj) hy (H.2 j (ready_mono hj hji)))
      rintro w' a' ⟨hy', hK⟩
      refine ih (listed.setIfInBounds j true) w' a' (fun k ok hk hki hun hno => hfree k ok hk hki ?_ hno) (ready_mono hr (Ne.symm hji)) hy' (by rw [Array.setIfInBounds_comm _ _ hji]; exact hK)
      by_cases hjk : j = k
      · subst hjk; exact hjun
      · rwa [getD_set_ne true hjk] at hun
/-- The order of the text; ns: those of which the world has its say. -/
def textK (P : Program) (ops : Array Oper) (R : World → World → Prop) (Q : Act → World → Prop) (ns : List Nat) : List Oper → Nat → World → Act → Prop
  | [], _, w, a => ∀ W, Keep w W → Q a W
  | o :: rest, k, w, a => if ns.contains k = true then LooseK P ops R w o (textK P ops R Q ns rest (k + 1)) a else ∃ v, SureK P ops R w o v a ∧ textK P ops R Q ns rest (k + 1) w (a.put o.dst v)
def lexK (md : Region.Mode) (ops : Array Oper) (ns : List Nat) : Nat → Nat → Array Bool → Bool
  | 0, _, listed => (Region.ready md ops listed).isEmpty
  | fuel + 1, k, listed => (if ns.contains k = true then decide (Region.ready md ops listed = [k]) else (Region.ready md ops listed).contains k && Region.free md ops listed k) && lexK md ops ns fuel (k + 1) (listed.setIfInBounds k true)
theorem everyK_text (T : Way R) {ns : List Nat} (hs : Region.noSelect ops = true) : ∀ (l : List Oper) (k : Nat) (listed : Array Bool) (w : World) (a : Act), (∀ j, l[j]? = ops[k + j]?) →
    lexK md ops ns l.length k listed = true → textK P ops R Q ns l k w a → everyK P md ops R Q l.length listed w a
  | [], _, _, _, _, _, hB, h => ⟨by simpa [lexK] using hB, h⟩
  | o :: l, k, listed, w, a, hl, hB, h => by
    have h0 : ops[k]? = some o := by simpa using (hl 0).symm
    have hnext : ∀ j, l[j]? = ops[k + 1 + j]? := fun j => by
      have := hl (j + 1)
      simpa [Nat.add_assoc, Nat.add_comm 1 j] using this
    simp only [List.length_cons, lexK, Bool.and_eq_true] at hB
    obtain ⟨hr, hB'⟩ := hB
    unfold textK at h
    by_cases hc : ns.contains k = true
    · rw [if_pos hc] at hr h
      have hr : Region.ready md ops listed = [k] := by simpa using hr
      refine ⟨fun h1 => (by rw [h1] at hr; cases hr), fun i hi => ?_⟩
      rw [hr] at hi
      have hik : i = k := by simpa using hi
      subst hik
      rw [stepK_some h0]
      exact .inr ⟨h.1, fun W hI => (h.2 W hI).mono fun v W' ⟨hk, hT⟩ => ⟨hk, everyK_text T hs l (i + 1) _ _ _ hnext hB' hT⟩⟩
    · rw [if_neg hc] at hr h
      simp only [Bool.and_eq_true] at hr
      obtain ⟨v, hy, hK⟩ := h
      exact everyK_first T h0 (Region.noSelect_spec hs) l.length listed w a (Region.free_spec h0 hr.2) (by simpa using hr.1) hy (everyK_text T hs l (k + 1) _ _ _ hnext hB' hK)
def lexKB (md : Region.Mode) (ops : Array Oper) (ns : List Nat) : Bool := Region.noSelect ops && lexK md ops ns ops.size 0 (Array.replicate ops.size false)
/-- THE LAW. -/
theorem region {id : Nat} {Q' : Exit → Act → World → Prop} {a : Act} {w w0 : World} {l : List Oper} (R : World → World → Prop) (T : Way R) (ns : List Nat) (hm : P.follows .mixedOrders = true) (hB : lexKB .any l.toArray ns = true)
    (hk : Keep w0 w) (h : textK P l.toArray R (fun a' W => Q' .normal a' W) ns l 0 w0 a) : (Code.region id l.toArray true).wp P Q' a w := by
  simp only [lexKB, Bool.and_eq_true] at hB
  refine wp_region_any hm ?_
  have := everyK_text T (md := .any) (P := P) (Q := fun a' W => Q' .normal a' W) (ns := ns) hB.1 l 0 (Array.replicate l.toArray.size false) w0 a (by simp) (by simpa using hB.2) h
  simpa using everyK_sound T (Q' := Q') _ _ _ _ w.drew hk.drew this
theorem textK_end {ns : List Nat} {k : Nat} {w : World} {a : Act} (h : ∀ W, Keep w W → Q a W) : textK P ops R Q ns [] k w a := h
theorem textK_step {ns : List Nat} {k : Nat} {w : World} {a : Act} {o : Oper} {rest : List Oper} {v : Value} (hn : ns.contains k = false) (hw : Region.wanted o (yielded ops a.tmps) = true)
    (hr : ∀ W, R w W → Yes P (Keep W) v ((execOp a.eval o).run P W)) (h : textK P ops R Q ns rest (k + 1) w (a.put o.dst v)) : textK P ops R Q ns (o :: rest) k w a := by
  unfold textK
  rw [if_neg (by rw [hn]; decide)]
  exact ⟨v, .inl ⟨hw, hr⟩, h⟩
theorem textK_pass {ns : List Nat} {k : Nat} {w : World} {a : Act} {o : Oper} {rest : List Oper} (hn : ns.contains k = false) (hw : Region.wanted o (yielded ops a.tmps) = false)
    (h : textK P ops R Q ns rest (k + 1) w (a.put o.dst undef)) : textK P ops R Q ns (o :: rest) k w a := by
  unfold textK
  rw [if_neg (by rw [hn]; decide)]
  exact ⟨undef, .inr ⟨hw, rfl⟩, h⟩
theorem textK_loose {ns : List Nat} {k : Nat} {w : World} {a : Act} {o : Oper} {rest : List Oper} (hn : ns.contains k = true) (hw : Region.wanted o (yielded ops a.tmps) = true)
    (hr : ∀ W, Keep w W → Gives P (fun v W' => R W W' ∧ textK P ops R Q ns rest (k + 1) W' (a.put o.dst v)) ((execOp a.eval o).run P W)) : textK P ops R Q ns (o :: rest) k w a := by
  unfold textK
  rw [if_pos hn]
  exact ⟨hw, hr⟩

/-! ### In an order of the prover's own -/
def textO (P : Program) (ops : Array Oper) (R : World → World → Prop) (Q : Act → World → Prop) (ns : List Nat) : List Nat → World → Act → Prop
  | [], w, a => ∀ W, Keep w W → Q a W
  | k :: rest, w, a => match ops[k]? with
    | none => False
    | some o => if ns.contains k = true then LooseK P ops R w o (textO P ops R Q ns rest) a else ∃ v, SureK P ops R w o v a ∧ textO P ops R Q ns rest w (a.put o.dst v)
def lexO (md : Region.Mode) (ops : Array Oper) (ns : List Nat) : List Nat → Array Bool → Bool
  | [], listed => (Region.ready md ops listed).isEmpty
  | k :: rest, listed => (if ns.contains k = true then decide (Region.ready md ops listed = [k]) else (Region.ready md ops listed).contains k && Region.free md ops listed k) && lexO md ops ns rest (listed.setIfInBounds k true)
theorem everyK_ord (T : Way R) {ns : List Nat} (hs : Region.noSelect ops = true) : ∀ (l : List Nat) (listed : Array Bool) (w : World) (a : Act),
    lexO md ops ns l listed = true → textO P ops R Q ns l w a → everyK P md ops R Q l.length listed w a
  | [], _, _, _, hB, h => ⟨by simpa [lexO] using hB, h⟩
  | k :: l, listed, w, a, hB, h => by
    simp only [lexO, Bool.and_eq_true] at hB
    obtain ⟨hr, hB'⟩ := hB
    unfold textO at h
    split at h
    · exact h.elim
    · rename_i o h0
      by_cases hc : ns.contains k = true
      · rw [if_pos hc] at hr h
        have hr : Region.ready md ops listed = [k] := by simpa using hr
        refine ⟨fun h1 => (by rw [h1] at hr; cases hr), fun i hi => ?_⟩
        rw [hr] at hi
        have hik : i = k := by simpa using hi
        subst hik
        rw [stepK_some h0]
        exact .inr ⟨h.1, fun W hI => (h.2 W hI).mono fun v W' ⟨hk, hT⟩ => ⟨hk, everyK_ord T hs l _ _ _ hB' hT⟩⟩
      · rw [if_neg hc] at hr h
        simp only [Bool.and_eq_true] at hr
        obtain ⟨v, hy, hK⟩ := h
        exact everyK_first T h0 (Region.noSelect_spec hs) l.length listed w a (Region.free_spec h0 hr.2) (by simpa using hr.1) hy (everyK_ord T hs l _ _ _ hB' hK)
def lexOB (md : Region.Mode) (ops : Array Oper) (ns ord : List Nat) : Bool := Region.noSelect ops && decide (ord.length = ops.size) && lexO md ops ns ord (Array.replicate ops.size false)
/-- THE LAW, IN AN ORDER OF THE PROVER'S OWN: a loose one stands where nothing else is ready. -/
theorem regionO {id : Nat} {Q' : Exit → Act → World → Prop} {a : Act} {w w0 : World} {l : List Oper} (R : World → World → Prop) (T : Way R) (ns ord : List Nat) (hm : P.follows .mixedOrders = true) (hB : lexOB .any l.toArray ns ord = true)
    (hk : Keep w0 w) (h : textO P l.toArray R (fun a' W => Q' .normal a' W) ns ord w0 a) : (Code.region id l.toArray true).wp P Q' a w := by
  simp only [lexOB, Bool.and_eq_true, decide_eq_true_eq] at hB
  refine wp_region_any hm ?_
  have := everyK_ord T (md := .any) (P := P) (Q := fun a' W => Q' .normal a' W) (ns := ns) hB.1.1 ord (Array.replicate l.toArray.size false) w0 a hB.2 h
  rw [hB.1.2] at this
  simpa using everyK_sound T (Q' := Q') _ _ _ _ w.drew hk.drew this
theorem ordK_end {ns : List Nat} {w : World} {a : Act} (h : ∀ W, Keep w W → Q a W) : textO P ops R Q ns [] w a := h
theorem ordK_step {ns : List Nat} {k : Nat} {w : World} {a : Act} {o : Oper} {rest : List Nat} {v : Value} (hn : ns.contains k = false) (ho : ops[k]? = some o) (hw : Region.wanted o (yielded ops a.tmps) = true)
    (hr : ∀ W, R w W → Yes P (Keep W) v ((execOp a.eval o).run P W)) (h : textO P ops R Q ns rest w (a.put o.dst v)) : textO P ops R Q ns (k :: rest) w a := by
  unfold textO
  simp only [ho]
  rw [if_neg (by rw [hn]; decide)]
  exact ⟨v, .inl ⟨hw, hr⟩, h⟩
theorem ordK_pass {ns : List Nat} {k : Nat} {w : World} {a : Act} {o : Oper} {rest : List Nat} (hn : ns.contains k = false) (ho : ops[k]? = some o) (hw : Region.wanted o (yielded ops a.tmps) = false)
    (h : textO P ops R Q ns rest w (a.put o.dst undef)) : textO P ops R Q ns (k :: rest) w a := by
  unfold textO
  simp only [ho]
  rw [if_neg (by rw [hn]; decide)]
  exact ⟨undef, .inr ⟨hw, rfl⟩, h⟩
theorem ordK_loose {ns : List Nat} {k : Nat} {w : World} {a : Act} {o : Oper} {rest : List Nat} (hn : ns.contains k = true) (ho : ops[k]? = some o) (hw : Region.wanted o (yielded ops a.tmps) = true)
    (hr : ∀ W, Keep w W → Gives P (fun v W' => R W W' ∧ textO P ops R Q ns rest W' (a.put o.dst v)) ((execOp a.eval o).run P W)) : textO P ops R Q ns (k :: rest) w a := by
  unfold textO
  simp only [ho]
  rw [if_pos hn]
  exact ⟨hw, hr⟩
end
end Go.Proofs.YtnnelghngekbpaaDoor.Rel
