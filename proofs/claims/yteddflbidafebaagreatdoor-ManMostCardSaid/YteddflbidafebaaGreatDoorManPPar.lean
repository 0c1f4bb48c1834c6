/- The program's Parse. -/
import Derived.Test.YteddflbidafebaaGreatDoorManRun
import Derived.Test.YteddflbidafebaaGreatDoorManPChk
namespace Go.Proofs.YteddflbidafebaaGreatDoor
set_option linter.unusedVariables false
set_option linter.unusedSimpArgs false
open Go Go.RowKit Go.Shelf
/-- What is laid ahead of Parse. -/
def MPre (w : World) : Prop := ErrT w ∧ RngV w ∧ MaxL w
theorem MPre.keep {w w' : World} (h : MPre w) (k : Keep w w') : MPre w' := ⟨h.1.keep k, h.2.1.keep k, h.2.2.keep k⟩
/-- Where the lines stand: the rest, how many were read, what they said. -/
structure PSt where
  rest : List UInt8
  n : Nat
  m : ManV
  ph : Nat
def zeroMan : Array Value := #[.slice none 0 0, .slice none 0 0, .slice none 0 0, .slice none 0 0, .string ⟨#[]⟩, .string ⟨#[]⟩, .string ⟨#[]⟩]
/-- Parse's blocks. -/
structure PrS (w W : World) (z : Nat) (rest : List UInt8) (n : Nat) (m : ManV) (ph : Nat) : Prop where
  keep : Keep w W
  hz : w.heap.size = z
  res : W.heap[z]? = some (.cells zeroMan 34)
  err : W.heap[z + 1]? = some (.cells #[.nilIface] 36)
  rd : ∃ vc vi vs vg, RdM W (z + 2) m (kindB ph) vc vi vs vg
  rp : W.heap[z + 3]? = some (.cells #[.pointer (some ⟨z + 2, 0, none⟩)] 52)
  at_ : W.heap[z + 4]? = some (.cells #[.int .i64 (n : Int)] 3)
  s : W.heap[z + 5]? = some (.cells #[.string (bsL rest)] 9)
/-- What is not the reader's. -/
theorem RdG.free {W : World} {r : Nat} {m : ManV} {bx : Array Value} {vc vi vs vg : Value} (h : RdG W r m bx vc vi vs vg) {z : Nat} {o : Obj} (hz : W.heap[z]? = some o) (hr : z ≠ r)
    (ho : ∀ cs e fr, o = .cells cs e fr → e ≠ 44 ∧ e ≠ 32 ∧ e ≠ 74 ∧ e ≠ 46) : ¬ RdS r vc vi vs vg z := by
  rintro (hs | hs | hs | hs | hs)
  · exact hr hs
  · obtain ⟨_, c, f, e⟩ := own_obj h.comps hs
    rw [hz] at e; exact (ho _ _ _ (Option.some.inj e)).1 rfl
  · obtain ⟨_, c, f, e⟩ := own_obj h.imps hs
    rw [hz] at e; exact (ho _ _ _ (Option.some.inj e)).2.1 rfl
  · obtain ⟨_, c, f, e⟩ := own_obj h.shrs hs
    rw [hz] at e; exact (ho _ _ _ (Option.some.inj e)).2.2.1 rfl
  · obtain ⟨_, c, f, e⟩ := own_obj h.grns hs
    rw [hz] at e; exact (ho _ _ _ (Option.some.inj e)).2.2.2 rfl
theorem at_old {W : World} {z : Nat} {o : Obj} (h : W.heap[z]? = some o) : z < W.heap.size := (Array.getElem?_eq_some_iff.1 h).1
theorem at_but {S : Nat → Prop} {W W' : World} {z : Nat} {o : Obj} (h : W.heap[z]? = some o) (k : KeepBut S W W') (hS : ¬ S z) : W'.heap[z]? = some o := by rw [k.block z (at_old h) hS]; exact h
theorem at_keep {W W' : World} {z : Nat} {o : Obj} (h : W.heap[z]? = some o) (k : Keep W W') : W'.heap[z]? = some o := at_but h (k.but fun _ => False) (fun h => h)
theorem at_set {W : World} {z i : Nat} {vs : Array Value} {e : TypeId} {fr : Nat × Nat} (h : W.heap[z]? = some (.cells vs e fr)) (v : Value) : (W.setCell ⟨z, i, none⟩ v).heap[z]? = some (.cells (vs.setIfInBounds i v) e fr) := by
  simp only [World.setCell, Array.getElem?_modify, if_pos rfl, h]
  rfl
section
variable {w W W' : World} {z : Nat} {rest : List UInt8} {n : Nat} {m : ManV} {ph : Nat}
theorem PrS.keep' (h : PrS w W z rest n m ph) (k : Keep W W') : PrS w W' z rest n m ph :=
  ⟨h.keep.trans k, h.hz, at_keep h.res k, at_keep h.err k, h.rd.elim fun vc ⟨vi, vs, vg, hr⟩ => ⟨vc, vi, vs, vg, RdG.keep hr k⟩, at_keep h.rp k, at_keep h.at_ k, at_keep h.s k⟩
/-- A cell of Parse's own is written, or the loop's record turned. -/
theorem PrS.but {S : Nat → Prop} (h : PrS w W z rest n m ph) (k : KeepBut S W W') (hS : ∀ x, S x → (x = z + 4 ∨ x = z + 5 ∨ z + 6 ≤ x)) (hR : ∀ x, S x → ∀ o, W.heap[x]? = some o → ∀ cs e fr, o = .cells cs e fr → e ≠ 44 ∧ e ≠ 32 ∧ e ≠ 74 ∧ e ≠ 46)
    {rest' : List UInt8} {n' : Nat} (ha : W'.heap[z + 4]? = some (.cells #[.int .i64 (n' : Int)] 3)) (hs : W'.heap[z + 5]? = some (.cells #[.string (bsL rest')] 9)) : PrS w W' z rest' n' m ph := by
  have hz := h.hz
  refine ⟨h.keep.butNew k (fun x hx => by rcases hS x hx with e | e | e <;> omega), h.hz, at_but h.res k (fun e => by rcases hS _ e with e | e | e <;> omega), at_but h.err k (fun e => by rcases hS _ e with e | e | e <;> omega), ?_, at_but h.rp k (fun e => by rcases hS _ e with e | e | e <;> omega), ha, hs⟩
  obtain ⟨vc, vi, vs, vg, hr⟩ := h.rd
  have hno : ∀ x, S x → ¬ RdS (z + 2) vc vi vs vg x := fun x hx => by
    have hlt : ∀ y, RdS (z + 2) vc vi vs vg y → y < W.heap.size := fun y hy => RdG.old hr hy
    intro hrs
    have hxl := hlt x hrs
    exact RdG.free hr (Array.getElem?_eq_getElem hxl) (by rcases hS x hx with e | e | e <;> omega) (hR x hx _ (Array.getElem?_eq_getElem hxl)) hrs
  refine ⟨vc, vi, vs, vg, at_but hr.box k (fun e => hno _ e (.inl rfl)), owns_but hr.comps k (fun g hg e => hno _ e (.inr (.inl hg))), owns_but hr.imps k (fun g hg e => hno _ e (.inr (.inr (.inl hg)))), owns_but hr.shrs k (fun g hg e => hno _ e (.inr (.inr (.inr (.inl hg))))), owns_but hr.grns k (fun g hg e => hno _ e (.inr (.inr (.inr (.inr hg)))))⟩
/-- A line was read. -/
theorem PrS.line (h : PrS w W z rest n m ph) {vc vi vs vg : Value} (hr : RdM W (z + 2) m (kindB ph) vc vi vs vg) (k : KeepBut (RdS (z + 2) vc vi vs vg) W W') {m' : ManV} {ph' : Nat} (hr' : ∃ vc vi vs vg, RdM W' (z + 2) m' (kindB ph') vc vi vs vg) : PrS w W' z rest n m' ph' := by
  have hz := h.hz
  have hge : ∀ x, RdS (z + 2) vc vi vs vg x → w.heap.size ≤ x := fun x hx => by have := RdG.ge hr hx; omega
  have fr : ∀ {x : Nat} {vs' : Array Value} {e : TypeId}, W.heap[x]? = some (.cells vs' e) → x ≠ z + 2 → (e ≠ 44 ∧ e ≠ 32 ∧ e ≠ 74 ∧ e ≠ 46) → ¬ RdS (z + 2) vc vi vs vg x := fun hx hn he => RdG.free hr hx hn (fun cs e' f e2 => by cases e2; exact he)
  exact ⟨h.keep.butNew k hge, h.hz, at_but h.res k (fr h.res (by omega) (by decide)), at_but h.err k (fr h.err (by omega) (by decide)), hr', at_but h.rp k (fr h.rp (by omega) (by decide)), at_but h.at_ k (fr h.at_ (by omega) (by decide)), at_but h.s k (fr h.s (by omega) (by decide))⟩
end
theorem put_but (W : World) (l : Nat) (o : Obj) : KeepBut (fun z => z = l) W (W.putObj l o) := ⟨rfl, rfl, rfl, by simp, fun k _ hk => World.putObj_heap_other hk⟩
/-! ### A line, whatever it is -/
theorem mline_any (W : World) (r : Nat) (m : ManV) (ph k : Nat) (hph : ph ≤ 5) (vc vi vs vg : Value) (h : RdM W r m (kindB ph) vc vi vs vg) (hP : RngV W ∧ MaxL W) (hL : LowS (RdS r vc vi vs vg)) (hm : MayN k m) (hk : k ≤ 1000) (rest : List UInt8) (hl : rest.length ≤ 1000) :
    Calls Tryz.prog 13 #[.pointer (some ⟨r, 0, none⟩), .string (bsL (cutL rest).1)] W (LineR W r (RdS r vc vi vs vg) (nextRes rest m ph)) := by
  obtain ⟨hR, hM⟩ := hP
  have hb := hm.big hk
  -- what words gives
  have key : ∃ fC fI fS fG fT : OptW, nextRes rest m ph = outK ph fC fI fS fG fT m ∧
      (∀ (kd : List UInt8) (n : Nat) (f : OptW), (kd = lC ∧ n = 2 ∧ f = fC) ∨ (kd = lI ∧ n = 3 ∧ f = fI) ∨ (kd = lS ∧ n = 2 ∧ f = fS) ∨ (kd = lG ∧ n = 3 ∧ f = fG) ∨ (kd = lT ∧ n = 2 ∧ f = fT) →
        (∀ V, MaxL V → Calls Tryz.prog 33 #[.string (bsL (cutL rest).1), .string (bsL kd), .int .i64 (n : Int)] V fun e w' => WordsR V n e w' f) ∧ (∀ ws, f = some ws → ws.length = n ∧ ∀ x ∈ ws, x.length ≤ 5000)) := by
    have n32 : ∀ kd : List UInt8, kd = lC ∨ kd = lI ∨ kd = lS ∨ kd = lG ∨ kd = lT → (∀ x ∈ kd, x ≠ 32) ∧ kd.length ≤ 100 := by
      rintro kd (rfl | rfl | rfl | rfl | rfl) <;> decide
    unfold nextRes cutL
    by_cases hi : Lib.indexByte rest 10 = -1
    · rw [if_pos hi, if_pos hi]
      refine ⟨none, none, none, none, none, (out_open m ph).symm, fun kd n f hf => ?_⟩
      have hno : ∀ x ∈ rest, x ≠ 10 := by
        intro x hx e2
        obtain ⟨j, hj, hj2⟩ := List.mem_iff_getElem.1 hx
        exact Lib.indexByte_none hi j (by rw [List.getElem?_eq_getElem hj, hj2, e2])
      have hf0 : f = none := by rcases hf with ⟨_, _, h⟩ | ⟨_, _, h⟩ | ⟨_, _, h⟩ | ⟨_, _, h⟩ | ⟨_, _, h⟩ <;> exact h
      subst hf0
      obtain ⟨_, h2⟩ := n32 kd (by rcases hf with ⟨h, _⟩ | ⟨h, _⟩ | ⟨h, _⟩ | ⟨h, _⟩ | ⟨h, _⟩ <;> simp [h])
      exact ⟨fun V hV => mwords_open rest kd n (by rcases hf with ⟨_, h, _⟩ | ⟨_, h, _⟩ | ⟨_, h, _⟩ | ⟨_, h, _⟩ | ⟨_, h, _⟩ <;> simp [h]) hno (by omega) h2 V hV, fun ws h => by cases h⟩
    · rw [if_neg hi, if_neg hi]
      obtain ⟨o, ho⟩ : ∃ o : Nat, Lib.indexByte rest 10 = o := ⟨(Lib.indexByte rest 10).toNat, by have := Lib.indexByte_ge rest 10; omega⟩
      rw [ho]
      obtain ⟨h1, h2⟩ := Lib.indexByte_some ho
      have hol := (List.getElem?_eq_some_iff.1 h1).1
      obtain ⟨l, hle⟩ : ∃ l, l = rest.take o := ⟨_, rfl⟩
      have htk : rest.take (o + 1) = l ++ [10] := by rw [List.take_add_one, h1, hle]; rfl
      have hlo : l.length ≤ 1000 := by rw [hle, List.length_take]; omega
      have hno : ∀ x ∈ l, x ≠ 10 := by
        intro x hx e
        rw [hle] at hx
        obtain ⟨j, hj, hj2⟩ := List.mem_iff_getElem.1 hx
        have hj3 : j < o := by simp at hj; omega
        apply h2 j hj3
        rw [← e, ← hj2, List.getElem_take]
        exact List.getElem?_eq_getElem _
      refine ⟨lineWords lC 2 l, lineWords lI 3 l, lineWords lS 2 l, lineWords lG 3 l, lineWords lT 2 l, ?_, fun kd n f hf => ?_⟩
      · show mlineP (splitB 32 (rest.take o)) m ph = _
        rw [← hle, out_line]
      · have hfe : f = lineWords kd n l := by rcases hf with ⟨rfl, rfl, h⟩ | ⟨rfl, rfl, h⟩ | ⟨rfl, rfl, h⟩ | ⟨rfl, rfl, h⟩ | ⟨rfl, rfl, h⟩ <;> exact h
        obtain ⟨g1, g2⟩ := n32 kd (by rcases hf with ⟨h, _⟩ | ⟨h, _⟩ | ⟨h, _⟩ | ⟨h, _⟩ | ⟨h, _⟩ <;> simp [h])
        subst hfe
        refine ⟨fun V hV => ?_, fun ws hws => ?_⟩
        · show Calls Tryz.prog 33 #[.string (bsL (rest.take (o + 1))), .string (bsL kd), .int .i64 (n : Int)] V fun e w' => WordsR V n e w' (lineWords kd n l)
          rw [htk]
          exact mwords_line l kd n (by rcases hf with ⟨_, h, _⟩ | ⟨_, h, _⟩ | ⟨_, h, _⟩ | ⟨_, h, _⟩ | ⟨_, h, _⟩ <;> simp [h]) hno (by omega) g1 g2 V hV
        · unfold lineWords at hws
          cases e : splitB 32 l with
          | nil => rw [e] at hws; cases hws
          | cons p q =>
            rw [e] at hws
            dsimp only at hws
            by_cases hc : p = kd ∧ q.length = n
            · rw [if_pos hc] at hws
              cases hws
              refine ⟨hc.2, fun x hx => ?_⟩
              have := split_mem_le (c := 32) (l := l) (x := x) (by rw [e]; exact List.mem_cons_of_mem _ hx)
              omega
            · rw [if_neg hc] at hws; cases hws
  obtain ⟨fC, fI, fS, fG, fT, hres, hw⟩ := key
  rw [hres]
  obtain ⟨wC, xC⟩ := hw lC 2 fC (.inl ⟨rfl, rfl, rfl⟩)
  obtain ⟨wI, xI⟩ := hw lI 3 fI (.inr (.inl ⟨rfl, rfl, rfl⟩))
  obtain ⟨wS, xS⟩ := hw lS 2 fS (.inr (.inr (.inl ⟨rfl, rfl, rfl⟩)))
  obtain ⟨wG, xG⟩ := hw lG 3 fG (.inr (.inr (.inr (.inl ⟨rfl, rfl, rfl⟩))))
  obtain ⟨wT, xT⟩ := hw lT 2 fT (.inr (.inr (.inr (.inr ⟨rfl, rfl, rfl⟩))))
  clear hw hres
  unfold outK
  rcases (by omega : ph ≤ 1 ∨ ph = 2 ∨ ph = 3 ∨ ph = 4 ∨ ph = 5) with e | e | e | e | e
  · rw [if_pos e]
    have ek : kindB ph = ⟨#[99, 111, 109, 112]⟩ := if_pos e
    rw [ek] at h
    exact mline_C _ W r m vc vi vs vg h hR hM hL hb fC (fun V _ hV => wC V hV) xC fI (fun V _ hV => wI V hV) xI fS (fun V _ hV => wS V hV) xS fG (fun V _ hV => wG V hV) xG fT (fun V _ hV => wT V hV) xT
  · subst e
    exact mline_I _ W r m vc vi vs vg h hR hM hL hb fI (fun V _ hV => wI V hV) xI fS (fun V _ hV => wS V hV) xS fG (fun V _ hV => wG V hV) xG fT (fun V _ hV => wT V hV) xT
  · subst e
    exact mline_S _ W r m vc vi vs vg h hR hM hL hb fS (fun V _ hV => wS V hV) xS fG (fun V _ hV => wG V hV) xG fT (fun V _ hV => wT V hV) xT
  · subst e
    exact mline_G _ W r m vc vi vs vg h hR hM hL hb fG (fun V _ hV => wG V hV) xG fT (fun V _ hV => wT V hV) xT
  · subst e
    exact mline_none _ W r m vc vi vs vg h
end Go.Proofs.YteddflbidafebaaGreatDoor
