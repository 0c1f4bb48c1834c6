/- The program's Parse: the walk. -/
import Derived.Test.YteddflbidafebaaGreatDoorManPPar
namespace Go.Proofs.YteddflbidafebaaGreatDoor
set_option linter.unusedVariables false
set_option linter.unusedSimpArgs false
open Go Go.RowKit Go.Shelf
attribute [local go_sem] Oper.semAt_some
def allocs (w : World) : List Obj → World
  | [] => w
  | o :: r => allocs (w.alloc o) r
theorem allocs_keep : ∀ (os : List Obj) (w : World), Keep w (allocs w os)
  | [], w => Keep.refl w
  | o :: r, w => ((Keep.refl w).alloc o).trans (allocs_keep r (w.alloc o))
theorem allocs_at : ∀ (os : List Obj) (w : World) (i : Nat) (o : Obj), os[i]? = some o → (allocs w os).heap[w.heap.size + i]? = some o
  | [], _, _, _, h => by simp at h
  | x :: r, w, 0, o, h => by
    simp only [List.getElem?_cons_zero, Option.some.injEq] at h
    subst h
    show (allocs (w.alloc x) r).heap[w.heap.size]? = _
    exact at_keep (World.alloc_heap_new w x) (allocs_keep r (w.alloc x))
  | x :: r, w, i + 1, o, h => by
    simp only [List.getElem?_cons_succ] at h
    have := allocs_at r (w.alloc x) i o h
    rw [World.size_alloc] at this
    rw [show w.heap.size + (i + 1) = w.heap.size + 1 + i by omega]
    exact this
theorem mlines_make (s : ByteArray) (w : World) : Calls Tryz.prog 12 #[.string s] w fun e w' => e = .returned (.func (.func 31) #[] #[.pointer (some ⟨w.heap.size, 0, none⟩)]) ∧ w.alloc (.cells #[.string s] 9) = w' := by
  go_enter Tryz.func12, Tryz.ntmps12
  go_wp2_with fail
  go_ret
  exact ⟨rfl, rfl⟩
def LpAt (W : World) (z : Nat) : Prop := ∃ L, W.heap[z + 7]? = some (.loop L)
structure PInv (l : List UInt8) (st : PSt) : Prop where
  ph : st.ph ≤ 5
  may : MayN st.n st.m
  len : 8 * st.n + st.rest.length ≤ l.length
  run : mlinesP (splitB 10 l) 0 noMan 0 = mlinesP (splitB 10 st.rest) st.n st.m st.ph
def PJ (l : List UInt8) (w : World) (st : PSt) (W : World) : Prop := PrS w W w.heap.size st.rest st.n st.m st.ph ∧ PInv l st ∧ LpAt W w.heap.size
def PY (l : List UInt8) (w : World) (st : PSt) (v : Value) (W : World) : Prop := v = .string (bsL (cutL st.rest).1) ∧ st.rest ≠ [] ∧ PrS w W w.heap.size (cutL st.rest).2 st.n st.m st.ph ∧ PInv l st ∧ LpAt W w.heap.size
def PNx (st : PSt) (_ : Value) (st' : PSt) : Prop := st'.rest = (cutL st.rest).2
/-- An error is told. -/
structure PX (l : List UInt8) (w W : World) : Prop where
  keep : Keep w W
  res : W.heap[w.heap.size]? = some (.cells zeroMan 34)
  err : ∃ q n e, e ≠ 0 ∧ W.heap[w.heap.size + 1]? = some (.cells #[faultP q] 36) ∧ Box W q #[.string mlineT, .int .i64 n, .iface 40 (.int .i64 e)] ∧ manL l = .error (mlineT, n, e)
  lp : LpAt W w.heap.size
theorem LpAt.but {S : Nat → Prop} {W W' : World} {z : Nat} (h : LpAt W z) (k : KeepBut S W W') (hS : ¬ S (z + 7)) : LpAt W' z := h.elim fun L hl => ⟨L, at_but hl k hS⟩
theorem LpAt.put {W : World} {z : Nat} (h : LpAt W z) (L : Loop) : LpAt (W.putObj (z + 7) (.loop L)) z := ⟨L, by
  obtain ⟨L', h'⟩ := h
  exact World.putObj_heap_same (Array.getElem?_eq_some_iff.1 h').1⟩
theorem PrS.put {w W : World} {z : Nat} {rest : List UInt8} {n : Nat} {m : ManV} {ph : Nat} (h : PrS w W z rest n m ph) (hp : LpAt W z) (L : Loop) : PrS w (W.putObj (z + 7) (.loop L)) z rest n m ph := by
  obtain ⟨L', h'⟩ := hp
  refine h.but (put_but W (z + 7) _) (fun x hx => by omega) (fun x hx o ho cs e fr he => ?_) (at_but h.at_ (put_but W (z + 7) _) (by omega)) (at_but h.s (put_but W (z + 7) _) (by omega))
  subst hx
  rw [h'] at ho
  cases ho
  cases he
theorem PX.put {l : List UInt8} {w W : World} (h : PX l w W) (L : Loop) : PX l w (W.putObj (w.heap.size + 7) (.loop L)) := by
  obtain ⟨L', h'⟩ := h.lp
  obtain ⟨q, n, e, h1, h2, h3, h4⟩ := h.err
  have K := put_but W (w.heap.size + 7) (.loop L)
  refine ⟨h.keep.butNew K (fun x hx => by omega), at_but h.res K (by omega), ⟨q, n, e, h1, at_but h2 K (by omega), h3.but K ?_, h4⟩, h.lp.put L⟩
  rintro rfl
  obtain ⟨t, ht⟩ := h3
  rw [h'] at ht
  cases ht
theorem Keep.others {A B : World} (k : Keep A B) : KeepsOthers A B := ⟨k.size, fun _ _ h _ => at_keep h k⟩
theorem rd_others {W W' : World} {r : Nat} {m : ManV} {bx : Array Value} {vc vi vs vg : Value} (h : RdG W r m bx vc vi vs vg) (k : KeepBut (RdS r vc vi vs vg) W W') : KeepsOthers W W' := by
  refine ⟨k.size, fun x o hx ho => ?_⟩
  refine at_but hx k (fun hs => ?_)
  have hcells : ∃ cs e fr, W.heap[x]? = some (.cells cs e fr) := by
    rcases hs with rfl | hs | hs | hs | hs
    · exact ⟨_, _, _, h.box⟩
    · obtain ⟨_, c, f, e⟩ := own_obj h.comps hs; exact ⟨_, _, _, e⟩
    · obtain ⟨_, c, f, e⟩ := own_obj h.imps hs; exact ⟨_, _, _, e⟩
    · obtain ⟨_, c, f, e⟩ := own_obj h.shrs hs; exact ⟨_, _, _, e⟩
    · obtain ⟨_, c, f, e⟩ := own_obj h.grns hs; exact ⟨_, _, _, e⟩
  obtain ⟨cs, e, fr, hc⟩ := hcells
  rw [hx] at hc
  cases hc
  cases ho
def setAll (W : World) (z : Nat) : Nat → List Value → World
  | _, [] => W
  | i, v :: r => setAll (W.setCell ⟨z, i, none⟩ v) z (i + 1) r
def setArr (vs : Array Value) : Nat → List Value → Array Value
  | _, [] => vs
  | i, v :: r => setArr (vs.setIfInBounds i v) (i + 1) r
theorem setAll_at : ∀ (l : List Value) (W : World) (z i : Nat) (vs : Array Value) (e : TypeId) (fr : Nat × Nat), W.heap[z]? = some (.cells vs e fr) → (setAll W z i l).heap[z]? = some (.cells (setArr vs i l) e fr)
  | [], _, _, _, _, _, _, h => h
  | v :: r, W, z, i, vs, e, fr, h => setAll_at r _ z (i + 1) _ e fr (at_set h v)
theorem setAll_but : ∀ (l : List Value) (W : World) (z i : Nat), KeepBut (fun x => x = z) W (setAll W z i l)
  | [], _, _, _ => KeepBut.refl _ _
  | v :: r, W, z, i => (KeepBut.setAt (S := fun x => x = z) (.inl rfl) (KeepBut.refl _ W) v).trans (setAll_but r _ z (i + 1))
theorem setAll_others : ∀ (l : List Value) (W : World) (z i : Nat), KeepsOthers W (setAll W z i l)
  | [], _, _, _ => KeepsOthers.refl _
  | v :: r, W, z, i => (KeepsOthers.setCell _ _ _).trans (setAll_others r _ z (i + 1))
/-- What is answered is written where the results lie. -/
theorem res_set {W : World} {z : Nat} {arr : Array Value} {u : Value} (l : List Value) (v : Value) (h : W.heap[z]? = some (.cells arr 34)) (h1 : W.heap[z + 1]? = some (.cells #[u] 36)) :
    ((setAll W z 0 l).setCell ⟨z + 1, 0, none⟩ v).heap[z]? = some (.cells (setArr arr 0 l) 34) ∧ ((setAll W z 0 l).setCell ⟨z + 1, 0, none⟩ v).heap[z + 1]? = some (.cells #[v] 36) ∧
      KeepBut (fun x => x = z ∨ x = z + 1) W ((setAll W z 0 l).setCell ⟨z + 1, 0, none⟩ v) ∧ KeepsOthers W ((setAll W z 0 l).setCell ⟨z + 1, 0, none⟩ v) := by
  have hb : KeepBut (fun k => k = z + 1) (setAll W z 0 l) ((setAll W z 0 l).setCell ⟨z + 1, 0, none⟩ v) := KeepBut.setAt (S := fun k => k = z + 1) (.inl rfl) (KeepBut.refl _ _) v
  refine ⟨at_but (setAll_at l W z 0 arr _ _ h) hb (by omega), at_set (i := 0) (vs := #[u]) (at_but h1 (setAll_but l W z 0) (by omega)) v, ?_, (setAll_others l W z 0).trans (KeepsOthers.setCell _ _ _)⟩
  exact ((setAll_but l W z 0).mono (fun _ _ h => .inl h)).trans (hb.mono (fun _ _ h => .inr h))
def zeroL : List Value := [.slice none 0 0, .slice none 0 0, .slice none 0 0, .slice none 0 0, .string ⟨#[]⟩, .string ⟨#[]⟩, .string ⟨#[]⟩]
theorem next_ok {rest : List UInt8} {m m' : ManV} {ph ph' n : Nat} (h : nextRes rest m ph = .ok (m', ph')) (hm : MayN n m) (hl : rest.length ≤ 1000) : MayN (n + 1) m' ∧ ph' ≤ 5 ∧ (cutL rest).2.length + 8 ≤ rest.length := by
  unfold nextRes at h
  by_cases hi : Lib.indexByte rest 10 = -1
  · rw [if_pos hi] at h; cases h
  rw [if_neg hi] at h
  obtain ⟨o, ho⟩ : ∃ o : Nat, Lib.indexByte rest 10 = o := ⟨(Lib.indexByte rest 10).toNat, by have := Lib.indexByte_ge rest 10; omega⟩
  have hol : o < rest.length := (List.getElem?_eq_some_iff.1 (Lib.indexByte_some ho).1).1
  unfold cutL
  rw [if_neg hi]
  rw [ho] at h ⊢
  have h2 : mlineP (splitB 32 (rest.take o)) m ph = .ok (m', ph') := h
  have hlt : (rest.take o).length = o := by rw [List.length_take]; omega
  obtain ⟨a, b, c⟩ := line_may (by omega) h2 hm
  refine ⟨b, c, ?_⟩
  show (rest.drop (o + 1)).length + 8 ≤ rest.length
  rw [List.length_drop]; omega
/-- What Parse answers. -/
def ParR (l : List UInt8) (w : World) (e : Ending) (w' : World) : Prop := Keep w w' ∧ ∃ (m : ManV) (vc vi vs vg u : Value), e = .returned (.tuple #[manVal m vc vi vs vg, u]) ∧ ManAt w' m vc vi vs vg ∧ OErr w' u (manPW (bsL l)) ∧ ∀ y, manL l = .ok y → m = y
theorem noMan_at (W : World) : ManAt W noMan (.slice none 0 0) (.slice none 0 0) (.slice none 0 0) (.slice none 0 0) :=
  ⟨⟨none, 0, rfl, Nat.le_refl _, by decide, .inl rfl⟩, ⟨none, 0, rfl, Nat.le_refl _, by decide, .inl rfl⟩, ⟨none, 0, rfl, Nat.le_refl _, by decide, .inl rfl⟩, ⟨none, 0, rfl, Nat.le_refl _, by decide, .inl rfl⟩⟩
theorem par_err {l : List UInt8} {w V : World} {u : Value} {x : WrV} (hk : Keep w V) (he : manL l = .error x) (ho : OErr V u x) : ParR l w (.returned (.tuple #[manVal noMan (.slice none 0 0) (.slice none 0 0) (.slice none 0 0) (.slice none 0 0), u])) V := by
  refine ⟨hk, _, _, _, _, _, _, rfl, noMan_at V, ?_, fun y hy => by rw [he] at hy; cases hy⟩
  rw [manPW_err (s := bsL l) he]; exact ho
theorem par_ok {l : List UInt8} {w V : World} {m : ManV} {vc vi vs vg : Value} (hk : Keep w V) (he : manL l = .ok m) (ha : ManAt V m vc vi vs vg) : ParR l w (.returned (.tuple #[manVal m vc vi vs vg, .nilIface])) V := by
  refine ⟨hk, _, _, _, _, _, _, rfl, ha, ?_, fun y hy => by rw [he] at hy; cases hy; rfl⟩
  rw [manPW_ok (s := bsL l) he]; exact .isOk
theorem own_sl {W : World} {base : Nat} {e : TypeId} {size : Nat} {v : Value} {n : Nat} {xs : List Value} (h : W.ownsRow base e size v n xs) (hn : n ≤ 1000) : SlAt W v n xs := by
  obtain ⟨p, cap, hv, h1, h2, h3⟩ := owns_cells h (by unfold maxLen; omega)
  refine ⟨p, cap, hv, h1, h2, ?_⟩
  rcases h3 with h3 | ⟨b, hb, _, hlt, h3⟩
  · exact .inl h3
  · exact .inr ⟨b, 0, hb, hlt, h3⟩
theorem RdG.but {W W' : World} {r : Nat} {m : ManV} {bx : Array Value} {vc vi vs vg : Value} {S : Nat → Prop} (h : RdG W r m bx vc vi vs vg) (k : KeepBut S W W') (hS : ∀ x, RdS r vc vi vs vg x → ¬ S x) : RdG W' r m bx vc vi vs vg :=
  ⟨at_but h.box k (hS _ (.inl rfl)), owns_but h.comps k (fun g hg => hS _ (.inr (.inl hg))), owns_but h.imps k (fun g hg => hS _ (.inr (.inr (.inl hg)))), owns_but h.shrs k (fun g hg => hS _ (.inr (.inr (.inr (.inl hg))))), owns_but h.grns k (fun g hg => hS _ (.inr (.inr (.inr (.inr hg)))))⟩
theorem RdG.man {W : World} {r : Nat} {m : ManV} {bx : Array Value} {vc vi vs vg : Value} (h : RdG W r m bx vc vi vs vg) {k : Nat} (hm : MayN k m) (hk : k ≤ 100) : ManAt W m vc vi vs vg :=
  ⟨own_sl h.comps (by have := hm.comps; omega), own_sl h.imps (by have := hm.imps; omega), own_sl h.shrs (by have := hm.shrs; omega), own_sl h.grns (by have := hm.grns; omega)⟩
set_option maxHeartbeats 8000000 in
set_option maxRecDepth 100000 in
theorem mparse_walk (l : List UInt8) (hl : l.length ≤ 800) (w : World) (hP : MPre w) : Calls Tryz.prog 6 #[.string (bsL l)] w (ParR l w) := by
  have HP := Lib.hid hP
  refine (callsIn_wide (n := 9)).1 ?_
  refine callsIn_of_wp_marks Tryz.func6 rfl trivial ?_ rfl
  simp only [Tryz.ntmps6, List.size_toArray, List.length_cons, List.length_nil, Nat.reduceAdd, Nat.reduceSub, Array.replicate_succ, Array.replicate_zero, List.push_toArray, List.append_toArray, List.nil_append, List.cons_append]
  gi_wp2_with (refine ⟨trivial, ?_⟩; gi_at_call 12; refine (callsIn_wide.2 (mlines_make _ _)).mono ?_; rintro e w' ⟨rfl, rfl⟩)
  simp only [Nat.add_assoc, Nat.reduceAdd]
  obtain ⟨W6, hW6⟩ : ∃ W6, W6 = allocs w [.cells #[.slice none 0 0, .slice none 0 0, .slice none 0 0, .slice none 0 0, .string ⟨#[]⟩, .string ⟨#[]⟩, .string ⟨#[]⟩] 34, .cells #[.nilIface] 36, .cells #[.slice none 0 0, .slice none 0 0, .slice none 0 0, .slice none 0 0, .string ⟨#[]⟩, .string ⟨#[]⟩, .string ⟨#[]⟩, .string ⟨#[99, 111, 109, 112]⟩] 54, .cells #[.pointer (some ⟨w.heap.size + 2, 0, none⟩)] 52, .cells #[.int .i64 0] 3, .cells #[.string (bsL l)] 9] := ⟨_, rfl⟩
  have SZ : W6.heap.size = w.heap.size + 6 := by rw [hW6]; simp [allocs]
  have HSZ := Lib.hid SZ
  have H0 : Hid (∀ L : Loop, PJ l w ⟨l, 0, noMan, 0⟩ ((W6.alloc (.deferred (some []))).alloc (.loop L))) := Lib.hid (by
    intro L
    have hat : ∀ (i : Nat) (o : Obj), ([.cells #[.slice none 0 0, .slice none 0 0, .slice none 0 0, .slice none 0 0, .string ⟨#[]⟩, .string ⟨#[]⟩, .string ⟨#[]⟩] 34, .cells #[.nilIface] 36, .cells #[.slice none 0 0, .slice none 0 0, .slice none 0 0, .slice none 0 0, .string ⟨#[]⟩, .string ⟨#[]⟩, .string ⟨#[]⟩, .string ⟨#[99, 111, 109, 112]⟩] 54, .cells #[.pointer (some ⟨w.heap.size + 2, 0, none⟩)] 52, .cells #[.int .i64 0] 3, .cells #[.string (bsL l)] 9, .deferred (some []), .loop L] : List Obj)[i]? = some o → ((W6.alloc (.deferred (some []))).alloc (.loop L)).heap[w.heap.size + i]? = some o := fun i o h => by
      have := allocs_at [.cells #[.slice none 0 0, .slice none 0 0, .slice none 0 0, .slice none 0 0, .string ⟨#[]⟩, .string ⟨#[]⟩, .string ⟨#[]⟩] 34, .cells #[.nilIface] 36, .cells #[.slice none 0 0, .slice none 0 0, .slice none 0 0, .slice none 0 0, .string ⟨#[]⟩, .string ⟨#[]⟩, .string ⟨#[]⟩, .string ⟨#[99, 111, 109, 112]⟩] 54, .cells #[.pointer (some ⟨w.heap.size + 2, 0, none⟩)] 52, .cells #[.int .i64 0] 3, .cells #[.string (bsL l)] 9, .deferred (some []), .loop L] w i o h
      rw [hW6]; exact this
    refine ⟨⟨?_, rfl, hat 0 _ rfl, hat 1 _ rfl, ⟨.slice none 0 0, .slice none 0 0, .slice none 0 0, .slice none 0 0, hat 2 _ rfl, World.ownsRow_nil _ _ _ _, World.ownsRow_nil _ _ _ _, World.ownsRow_nil _ _ _ _, World.ownsRow_nil _ _ _ _⟩, hat 3 _ rfl, hat 4 _ rfl, hat 5 _ rfl⟩, ⟨Nat.zero_le 5, noMan_may, by simp, rfl⟩, ⟨L, hat 7 _ rfl⟩⟩
    have := allocs_keep [.cells #[.slice none 0 0, .slice none 0 0, .slice none 0 0, .slice none 0 0, .string ⟨#[]⟩, .string ⟨#[]⟩, .string ⟨#[]⟩] 34, .cells #[.nilIface] 36, .cells #[.slice none 0 0, .slice none 0 0, .slice none 0 0, .slice none 0 0, .string ⟨#[]⟩, .string ⟨#[]⟩, .string ⟨#[]⟩, .string ⟨#[99, 111, 109, 112]⟩] 54, .cells #[.pointer (some ⟨w.heap.size + 2, 0, none⟩)] 52, .cells #[.int .i64 0] 3, .cells #[.string (bsL l)] 9, .deferred (some []), .loop L] w
    rw [hW6]; exact this)
  show Code.wpIn _ _ _ _ _ _ (allocs w [.cells #[.slice none 0 0, .slice none 0 0, .slice none 0 0, .slice none 0 0, .string ⟨#[]⟩, .string ⟨#[]⟩, .string ⟨#[]⟩] 34, .cells #[.nilIface] 36, .cells #[.slice none 0 0, .slice none 0 0, .slice none 0 0, .slice none 0 0, .string ⟨#[]⟩, .string ⟨#[]⟩, .string ⟨#[]⟩, .string ⟨#[99, 111, 109, 112]⟩] 54, .cells #[.pointer (some ⟨w.heap.size + 2, 0, none⟩)] 52, .cells #[.int .i64 0] 3, .cells #[.string (bsL l)] 9])
  rw [← hW6]
  clear hW6 hP
  refine range_cells (F := Fence.wide) (n := 9) (w := W6) rfl (by omega) (gf := 31) (lb := #[.pointer (some ⟨w.heap.size + 5, 0, none⟩)]) rfl trivial (enters_of Tryz.func31 (by kernel_rfl) rfl) (ownCell (w.heap.size + 5)) (fun A B h => h.others) (PJ l w) (PY l w) PNx (PX l w) (fun st => st.rest = []) ⟨l, 0, noMan, 0⟩ ?hJp ?hYp ?hXp H0.out
    (fun v => { tmps := #[.string (bsL l), undef, .pointer (some ⟨w.heap.size, 0, none⟩), .pointer (some ⟨w.heap.size + 1, 0, none⟩), .pointer (some ⟨w.heap.size + 3, 0, none⟩), .pointer (some ⟨w.heap.size + 4, 0, none⟩), v, undef, undef, .agg #[.slice none 0 0, .slice none 0 0, .slice none 0 0, .slice none 0 0, .string ⟨#[]⟩, .string ⟨#[]⟩, .string ⟨#[]⟩, .string ⟨#[99, 111, 109, 112]⟩], .pointer (some ⟨w.heap.size + 2, 0, none⟩), .string (bsL l), .func (.func 31) #[] #[.pointer (some ⟨w.heap.size + 5, 0, none⟩)], v, undef, undef, undef, undef, undef, undef, undef, undef, undef, undef, undef, undef, undef, undef, undef, undef, undef, undef, undef, undef, undef, undef, undef, undef, undef, undef, undef, undef, undef, undef, undef, undef], defers := [] }) ?assign ?body ?iter ?done ?left
  case hJp =>
    rw [SZ]
    intro s W L h
    exact ⟨h.1.put h.2.2 L, h.2.1, h.2.2.put L⟩
  case hYp =>
    rw [SZ]
    intro s v W L h
    exact ⟨h.1, h.2.1, h.2.2.1.put h.2.2.2.2 L, h.2.2.2.1, h.2.2.2.2.put L⟩
  case hXp =>
    rw [SZ]
    intro W L h
    exact h.put L
  case assign =>
    intro v W K hK
    gi_wp2
    exact hK
  case iter =>
    intro W1
    rw [SZ]
    refine lines_iter (9 - 1) _ (w.heap.size + 5) (PJ l w) (PY l w) PNx (fun st => st.rest = []) ⟨l, 0, noMan, 0⟩ W1 (fun st => st.rest) (by omega) ?_ ?_ (fun s v s' h => h) (fun s h => h)
    · intro s W h
      exact ⟨by have := h.2.1.len; omega, h.1.s⟩
    · intro s W W' h hne k hs
      have hp := h.1.but k (fun x hx => by omega) (fun x hx o ho cs e fr he => by subst hx; rw [h.1.s] at ho; cases ho; cases he; decide) (at_but h.1.at_ k (by omega)) hs
      exact ⟨rfl, hne, hp, h.2.1, h.2.2.but k (by omega)⟩
  case body =>
    rw [SZ]
    intro s v W h
    obtain ⟨rfl, hne, hp, hi, hlp⟩ := h
    obtain ⟨vc, vi, vs, vg, hr⟩ := hp.rd
    have hlow : LowS (RdS (w.heap.size + 2) vc vi vs vg) := by
      obtain ⟨ev, he, _⟩ := HP.out.2.1
      obtain ⟨mx, hx⟩ := HP.out.2.2
      have b1 : 4 < w.heap.size := World.block_lt_of_cell? _ _ he
      have b2 : 1 < w.heap.size := World.block_lt_of_cell? _ _ hx
      exact ⟨fun h => by have := RdG.ge hr h; omega, fun h => by have := RdG.ge hr h; omega⟩
    have hlen := hi.len
    have CL := Lib.hid (mline_any W (w.heap.size + 2) s.m s.ph s.n hi.ph vc vi vs vg hr ⟨HP.out.2.1.keep hp.keep, HP.out.2.2.keep hp.keep⟩ hlow hi.may (by omega) s.rest (by omega))
    have HPs := Lib.hid hp
    have HI := Lib.hid hi
    have HLP := Lib.hid hlp
    have HRd := Lib.hid hr
    have HNE := Lib.hid hne
    have c3 := Box.cells (w := W) ⟨_, hp.rp⟩
    have hd : 1 ≤ 9 - 1 - 1 := by omega
    clear hlow hlen hp hi hlp hr hne
    gi_wp2_with fail
    refine ⟨trivial, ?_⟩
    gi_at_call 13
    refine (CallsIn.inRound _ (callsIn_wide.2 CL.out)).mono ?_
    rintro e W2 ⟨k2, hres⟩
    have KO := Lib.hid (rd_others HRd.out k2)
    have NR := Lib.hid (next_step HNE.out s.n s.m s.ph)
    have fr : ∀ {x : Nat} {vs' : Array Value} {e : TypeId}, W.heap[x]? = some (.cells vs' e) → x ≠ w.heap.size + 2 → (e ≠ 44 ∧ e ≠ 32 ∧ e ≠ 74 ∧ e ≠ 46) → ¬ RdS (w.heap.size + 2) vc vi vs vg x := fun hx hn he => RdG.free HRd.out hx hn (fun cs e' f e2 => by cases e2; exact he)
    have LP2 : Hid (LpAt W2 w.heap.size) := Lib.hid (by
      obtain ⟨L, hL⟩ := HLP.out
      exact ⟨L, KO.out.same _ _ hL rfl⟩)
    clear c3
    cases hn : nextRes s.rest s.m s.ph with
    | error er =>
      rw [hn] at hres
      obtain ⟨h0, rfl⟩ := hres
      have h0b : (er != 0) = true := by simpa using h0
      have NE := Lib.hid h0
      have R2 := at_but HPs.out.res k2 (fr HPs.out.res (by omega) (by decide))
      have E2 := at_but HPs.out.err k2 (fr HPs.out.err (by omega) (by decide))
      have A2 := at_but HPs.out.at_ k2 (fr HPs.out.at_ (by omega) (by decide))
      have KW2 : Hid (Keep w W2) := Lib.hid (HPs.out.keep.butNew k2 (fun x hx => by have := RdG.ge HRd.out hx; omega))
      have HR2 := Lib.hid R2
      have HE2 := Lib.hid E2
      have c4 := Box.cells (w := W2) ⟨_, A2⟩
      have hML : Hid (manL l = .error (mlineT, (s.n : Int), er)) := Lib.hid (by
        have e1 := HI.out.run
        rw [NR.out, hn] at e1
        unfold manL
        rw [e1])
      clear hn k2 fr R2 E2 A2 h0
      gi_wp2_with fail
      refine ⟨trivial, ?_⟩
      gi_at_call 14
      refine (CallsIn.inRound _ (callsIn_wide.2 (mfault_any _ _ _ _))).mono ?_
      rintro e W3 ⟨q, rfl, hq, hB, hk3⟩
      have R3 := at_keep HR2.out hk3
      have E3 := at_keep HE2.out hk3
      have HR3 := Lib.hid R3
      have HE3 := Lib.hid E3
      have HB3 := Lib.hid hB
      have HK3 := Lib.hid hk3
      have cr := Box.cells (w := W3) ⟨_, R3⟩
      have fr := Box.thawed (w := W3) ⟨_, R3⟩
      have ce := Box.cells (w := W3) ⟨_, E3⟩
      have fe := Box.thawed (w := W3) ⟨_, E3⟩
      unfold zeroMan at cr
      have HQ := Lib.hid hq
      clear hq hB hk3 R3 E3 c4
      unfold faultP
      gi_wp2
      obtain ⟨V, hV⟩ : ∃ V, V = (setAll W3 w.heap.size 0 zeroL).setCell ⟨w.heap.size + 1, 0, none⟩ (faultP q) := ⟨_, rfl⟩
      obtain ⟨v1, v2, v3, v4⟩ := res_set zeroL (faultP q) HR3.out HE3.out
      rw [← hV] at v1 v2 v3 v4
      rw [show setArr zeroMan 0 zeroL = zeroMan from rfl] at v1
      show rangeP _ _ _ _ _ _ _ _ ((setAll W3 w.heap.size 0 zeroL).setCell ⟨w.heap.size + 1, 0, none⟩ (faultP q))
      rw [← hV]
      refine (show KeepsOthers W V ∧ PX l w V from ⟨(KO.out.trans (Keep.others HK3.out)).trans v4, ⟨(KW2.out.trans HK3.out).butNew v3 (fun x hx => by omega), v1, ⟨q, _, er, NE.out, v2, HB3.out.but v3 ?_, hML.out⟩, (LP2.out.but (HK3.out.but fun _ => False) (fun h => h)).but v3 (by omega)⟩⟩)
      have := at_old HE2.out
      have := HQ.out
      omega
    | ok x =>
      obtain ⟨m', ph'⟩ := x
      rw [hn] at hres
      obtain ⟨rfl, hr'⟩ := hres
      have P2 := Lib.hid (HPs.out.line HRd.out k2 hr')
      have HN := Lib.hid hn
      clear hn hr' k2 fr
      have c4 := Box.cells (w := W2) ⟨_, P2.out.at_⟩
      have f4 := Box.thawed (w := W2) ⟨_, P2.out.at_⟩
      have wn : IntKind.i64.wrap ((s.n : Int) + 1) = (s.n : Int) + 1 := by rw [IntKind.wrap_i64]; have := HI.out.len; omega
      gi_wp2
      obtain ⟨V, hV⟩ : ∃ V, V = W2.setCell ⟨w.heap.size + 4, 0, none⟩ (.int .i64 ((s.n : Int) + 1)) := ⟨_, rfl⟩
      rw [← hV]
      have KV : KeepBut (fun x => x = w.heap.size + 4) W2 V := by rw [hV]; exact KeepBut.setAt (S := fun x => x = w.heap.size + 4) (.inl rfl) (KeepBut.refl _ _) _
      have KOV : KeepsOthers W2 V := by rw [hV]; exact KeepsOthers.setCell _ _ _
      have HA : V.heap[w.heap.size + 4]? = some (.cells #[.int .i64 ((s.n + 1 : Nat) : Int)] 3) := by
        rw [hV]
        exact at_set P2.out.at_ _
      have PV : PrS w V w.heap.size (cutL s.rest).2 (s.n + 1) m' ph' := P2.out.but KV (fun x hx => by omega) (fun x hx o ho cs e fr he => by subst hx; rw [P2.out.at_] at ho; cases ho; cases he; decide) HA (at_but P2.out.s KV (by omega))
      obtain ⟨i1, i2, i3⟩ := next_ok HN.out HI.out.may (by have := HI.out.len; omega)
      have IV : PInv l ⟨(cutL s.rest).2, s.n + 1, m', ph'⟩ := ⟨i2, i1, by have := HI.out.len; show 8 * (s.n + 1) + (cutL s.rest).2.length ≤ l.length; omega, by
        have e1 := HI.out.run
        rw [NR.out, HN.out] at e1
        exact e1⟩
      exact (show KeepsOthers W V ∧ ∃ s', PNx s (.string (bsL (cutL s.rest).1)) s' ∧ PJ l w s' V from ⟨KO.out.trans KOV, ⟨(cutL s.rest).2, s.n + 1, m', ph'⟩, rfl, PV, IV, LP2.out.but KV (by omega)⟩)
  case done =>
    intro s W hd h hD
    rw [SZ] at hD
    rw [SZ]
    obtain ⟨hp, hi, hlp⟩ := h
    obtain ⟨vc, vi, vs, vg, hr⟩ := hp.rd
    have HPs := Lib.hid hp
    have HI := Lib.hid hi
    have HRd := Lib.hid hr
    have HD := Lib.hid hD
    have HDn := Lib.hid hd
    have c3 := Box.cells (w := W) ⟨_, hp.rp⟩
    have cr := (RdG.bx hr).cells
    unfold rdBox at cr
    clear hp hi hlp hr hD hd
    have c4 := Box.cells (w := W) ⟨_, HPs.out.at_⟩
    have hrun := HI.out.run
    rw [HDn.out, next_none] at hrun
    by_cases h5 : s.ph = 5
    rotate_left
    · rw [if_pos h5] at hrun
      have hML : Hid (manL l = .error (mlineT, (s.n : Int), 11)) := Lib.hid (by unfold manL; rw [hrun])
      have hk1 : (kindB s.ph).toList.isEmpty = false := by
        have := HI.out.ph
        unfold kindB
        rcases (by omega : s.ph ≤ 1 ∨ s.ph = 2 ∨ s.ph = 3 ∨ s.ph = 4) with e | e | e | e
        · rw [if_pos e]; decide +kernel
        · rw [e]; decide +kernel
        · rw [e]; decide +kernel
        · rw [e]; decide +kernel
      have hk2 : ¬ (kindB s.ph).toList = [] := fun e => by rw [e] at hk1; cases hk1
      obtain ⟨kb, hkb⟩ : ∃ kb, kb = kindB s.ph := ⟨_, rfl⟩
      rw [← hkb] at hk1 hk2 cr
      have HR3' := Lib.hid HPs.out.res
      have HE3' := Lib.hid HPs.out.err
      clear hrun h5 hkb
      gi_wp2_with fail
      refine ⟨trivial, ?_⟩
      gi_at_call 14
      refine (callsIn_wide.2 (mfault_any _ _ _ _)).mono ?_
      rintro e W3 ⟨q, rfl, hq, hB, hk3⟩
      have R3 := at_keep HR3'.out hk3
      have E3 := at_keep HE3'.out hk3
      have HR3 := Lib.hid R3
      have HE3 := Lib.hid E3
      have HB3 := Lib.hid hB
      have HK3 := Lib.hid hk3
      have HD3 := Lib.hid (at_keep HD.out hk3)
      have cr3 := Box.cells (w := W3) ⟨_, R3⟩
      have fr3 := Box.thawed (w := W3) ⟨_, R3⟩
      have ce3 := Box.cells (w := W3) ⟨_, E3⟩
      have fe3 := Box.thawed (w := W3) ⟨_, E3⟩
      unfold zeroMan at cr3
      have HQ := Lib.hid hq
      clear hq hB hk3 R3 E3 c4 cr c3
      unfold faultP
      gi_wp2
      obtain ⟨V, hV⟩ : ∃ V, V = (setAll W3 w.heap.size 0 zeroL).setCell ⟨w.heap.size + 1, 0, none⟩ (faultP q) := ⟨_, rfl⟩
      obtain ⟨v1, v2, v3, v4⟩ := res_set zeroL (faultP q) HR3.out HE3.out
      rw [← hV] at v1 v2 v3 v4
      rw [show setArr zeroMan 0 zeroL = zeroMan from rfl] at v1
      show bodyPostM _ _ _ _ _ _ _ ((setAll W3 w.heap.size 0 zeroL).setCell ⟨w.heap.size + 1, 0, none⟩ (faultP q))
      rw [← hV]
      have HDV : V.heap[w.heap.size + 6]? = some (.deferred (some [])) := v4.same _ _ HD3.out rfl
      have s2 := at_old HE3'.out
      have s3 := HQ.out
      have KP := put_but V (w.heap.size + 6) (.deferred none)
      have c0 := Box.cells (w := V.putObj (w.heap.size + 6) (.deferred none)) ⟨_, at_but v1 KP (by omega)⟩
      have c1 := Box.cells (w := V.putObj (w.heap.size + 6) (.deferred none)) ⟨_, at_but v2 KP (by omega)⟩
      refine ⟨by simp, .inl ⟨_, _, rfl, run_takeDeferred HDV, ?_⟩⟩
      refine ⟨.tuple #[manVal noMan (.slice none 0 0) (.slice none 0 0) (.slice none 0 0) (.slice none 0 0), faultP q], ?_, ?_⟩
      · unfold zeroMan at c0
        simp [results, Tryz.results6, go_sem, c0, c1, manVal, noMan]
        done
      · have NQ : q ≠ w.heap.size + 6 := by
          rintro rfl
          obtain ⟨t, ht⟩ := HB3.out
          rw [HD3.out] at ht
          cases ht
        exact par_err (((HPs.out.keep.trans HK3.out).butNew v3 (fun x hx => by omega)).butNew KP (fun x hx => by omega)) hML.out (.inr ⟨q, _, _, _, (show (11 : Int) ≠ 0 by decide), rfl, rfl, (HB3.out.but v3 (by omega)).but KP NQ⟩)
    · rw [if_neg (by simpa using h5)] at hrun
      have hML : Hid (manL l = if (manW s.m).2.2 = 0 then .ok s.m else .error (manW s.m)) := Lib.hid (by unfold manL; rw [hrun])
      have hk0 : kindB s.ph = ⟨#[]⟩ := by rw [h5]; rfl
      have hn100 : s.n ≤ 100 := by have := HI.out.len; omega
      have CK := Lib.hid (mcheck_any s.m vc vi vs vg W (RdG.man HRd.out HI.out.may hn100) (HI.out.may.may hn100))
      rw [hk0] at cr
      have HR3' := Lib.hid HPs.out.res
      have HE3' := Lib.hid HPs.out.err
      have HMA := Lib.hid (RdG.man HRd.out HI.out.may hn100)
      unfold manVal at CK
      obtain ⟨pc, cc, rfl, _, _, _⟩ := HMA.out.comps
      obtain ⟨pi, ci, rfl, _, _, _⟩ := HMA.out.imps
      obtain ⟨ps, cs, rfl, _, _, _⟩ := HMA.out.shrs
      obtain ⟨pg, cg, rfl, _, _, _⟩ := HMA.out.grns
      have HN100 := Lib.hid hn100
      have HRP := Lib.hid HPs.out.rp
      clear hrun h5 hn100 c4
      gi_wp2_with fail
      refine ⟨trivial, ?_⟩
      gi_at_call 11
      refine (callsIn_wide.2 CK.out).mono ?_
      rintro e W3 ⟨u, rfl, hu, hk3⟩
      have R3 := at_keep HR3'.out hk3
      have E3 := at_keep HE3'.out hk3
      have HR3 := Lib.hid R3
      have HE3 := Lib.hid E3
      have HK3 := Lib.hid hk3
      have HD3 := Lib.hid (at_keep HD.out hk3)
      have HG3 := Lib.hid (RdG.keep HRd.out hk3)
      have cr3 := Box.cells (w := W3) ⟨_, R3⟩
      have fr3 := Box.thawed (w := W3) ⟨_, R3⟩
      have ce3 := Box.cells (w := W3) ⟨_, E3⟩
      have fe3 := Box.thawed (w := W3) ⟨_, E3⟩
      have c33 := Box.cells (w := W3) ⟨_, at_keep HRP.out hk3⟩
      have cg3 := HG3.out.bx.cells
      unfold zeroMan at cr3
      unfold rdBox at cg3
      have s2 := at_old HE3'.out
      by_cases z0 : (manW s.m).2.2 = 0
      · obtain rfl : u = .nilIface := mOErr_ok hu z0
        have HM2 : Hid (manL l = .ok s.m) := Lib.hid (hML.out.trans (if_pos z0))
        clear hu z0 hk3 R3 E3 c3 cr hML
        gi_wp2
        obtain ⟨V, hV⟩ : ∃ V, V = (setAll W3 w.heap.size 0 [.slice pc s.m.comps.length cc, .slice pi s.m.imps.length ci, .slice ps s.m.shrs.length cs, .slice pg s.m.grns.length cg, .string s.m.start.comp, .string s.m.start.from_, .string s.m.start.name]).setCell ⟨w.heap.size + 1, 0, none⟩ .nilIface := ⟨_, rfl⟩
        obtain ⟨v1, v2, v3, v4⟩ := res_set [.slice pc s.m.comps.length cc, .slice pi s.m.imps.length ci, .slice ps s.m.shrs.length cs, .slice pg s.m.grns.length cg, .string s.m.start.comp, .string s.m.start.from_, .string s.m.start.name] .nilIface HR3.out HE3.out
        rw [← hV] at v1 v2 v3 v4
        rw [show setArr zeroMan 0 [.slice pc s.m.comps.length cc, .slice pi s.m.imps.length ci, .slice ps s.m.shrs.length cs, .slice pg s.m.grns.length cg, .string s.m.start.comp, .string s.m.start.from_, .string s.m.start.name] = #[.slice pc s.m.comps.length cc, .slice pi s.m.imps.length ci, .slice ps s.m.shrs.length cs, .slice pg s.m.grns.length cg, .string s.m.start.comp, .string s.m.start.from_, .string s.m.start.name] from rfl] at v1
        show bodyPostM _ _ _ _ _ _ _ ((setAll W3 w.heap.size 0 [.slice pc s.m.comps.length cc, .slice pi s.m.imps.length ci, .slice ps s.m.shrs.length cs, .slice pg s.m.grns.length cg, .string s.m.start.comp, .string s.m.start.from_, .string s.m.start.name]).setCell ⟨w.heap.size + 1, 0, none⟩ .nilIface)
        rw [← hV]
        have HDV : V.heap[w.heap.size + 6]? = some (.deferred (some [])) := v4.same _ _ HD3.out rfl
        have KP := put_but V (w.heap.size + 6) (.deferred none)
        have c0 := Box.cells (w := V.putObj (w.heap.size + 6) (.deferred none)) ⟨_, at_but v1 KP (by omega)⟩
        have c1 := Box.cells (w := V.putObj (w.heap.size + 6) (.deferred none)) ⟨_, at_but v2 KP (by omega)⟩
        refine ⟨by simp, .inl ⟨_, _, rfl, run_takeDeferred HDV, ?_⟩⟩
        refine ⟨.tuple #[manVal s.m (.slice pc s.m.comps.length cc) (.slice pi s.m.imps.length ci) (.slice ps s.m.shrs.length cs) (.slice pg s.m.grns.length cg), .nilIface], ?_, ?_⟩
        · skip
          simp [results, Tryz.results6, go_sem, c0, c1, manVal, noMan]
          done
        · have G1 := HG3.out.but v3 (fun x hx e => by have := RdG.ge HG3.out hx; omega)
          have G2 := G1.but KP (fun x hx e => RdG.free G1 HDV (by omega) (fun cs e2 fr he => by cases he) (e ▸ hx))
          exact par_ok (((HPs.out.keep.trans HK3.out).butNew v3 (fun x hx => by omega)).butNew KP (fun x hx => by omega)) HM2.out (G2.man HI.out.may HN100.out)
      · obtain ⟨q, rfl, hB⟩ := mOErr_box hu z0
        have HM2 : Hid (manL l = .error (manW s.m)) := Lib.hid (hML.out.trans (if_neg z0))
        have HZ := Lib.hid z0
        have HB3 := Lib.hid hB
        have HU := Lib.hid hu
        clear hu z0 hB hk3 R3 E3 c3 cr hML
        unfold faultP
        gi_wp2
        obtain ⟨V, hV⟩ : ∃ V, V = (setAll W3 w.heap.size 0 zeroL).setCell ⟨w.heap.size + 1, 0, none⟩ (faultP q) := ⟨_, rfl⟩
        obtain ⟨v1, v2, v3, v4⟩ := res_set zeroL (faultP q) HR3.out HE3.out
        rw [← hV] at v1 v2 v3 v4
        rw [show setArr zeroMan 0 zeroL = zeroMan from rfl] at v1
        show bodyPostM _ _ _ _ _ _ _ ((setAll W3 w.heap.size 0 zeroL).setCell ⟨w.heap.size + 1, 0, none⟩ (faultP q))
        rw [← hV]
        have HDV : V.heap[w.heap.size + 6]? = some (.deferred (some [])) := v4.same _ _ HD3.out rfl
        have KP := put_but V (w.heap.size + 6) (.deferred none)
        have c0 := Box.cells (w := V.putObj (w.heap.size + 6) (.deferred none)) ⟨_, at_but v1 KP (by omega)⟩
        have c1 := Box.cells (w := V.putObj (w.heap.size + 6) (.deferred none)) ⟨_, at_but v2 KP (by omega)⟩
        refine ⟨by simp, .inl ⟨_, _, rfl, run_takeDeferred HDV, ?_⟩⟩
        refine ⟨.tuple #[manVal noMan (.slice none 0 0) (.slice none 0 0) (.slice none 0 0) (.slice none 0 0), faultP q], ?_, ?_⟩
        · unfold zeroMan at c0
          simp [results, Tryz.results6, go_sem, c0, c1, manVal, noMan]
          done
        · have NQ : q ≠ w.heap.size + 6 := by
            rintro rfl
            obtain ⟨t, ht⟩ := HB3.out
            rw [HD3.out] at ht
            cases ht
          have NQ0 : ¬ (q = w.heap.size ∨ q = w.heap.size + 1) := by
            rintro (rfl | rfl)
            · obtain ⟨t, ht⟩ := HB3.out
              rw [HR3.out] at ht
              simp [zeroMan] at ht
            · obtain ⟨t, ht⟩ := HB3.out
              rw [HE3.out] at ht
              simp at ht
          exact par_err (((HPs.out.keep.trans HK3.out).butNew v3 (fun x hx => by omega)).butNew KP (fun x hx => by omega)) HM2.out (.inr ⟨q, _, _, _, HZ.out, rfl, rfl, (HB3.out.but v3 NQ0).but KP NQ⟩)
  case left =>
    intro W h hD
    rw [SZ] at hD ⊢
    have HX := Lib.hid h
    have HD := Lib.hid hD
    clear h hD
    gi_wp2
    obtain ⟨q, n, er, e0, e1, e2, e3⟩ := HX.out.err
    obtain ⟨V, hV⟩ : ∃ V, V = W := ⟨_, rfl⟩
    rw [← hV] at e1 e2 HX HD
    rw [← hV]
    have KP := put_but V (w.heap.size + 6) (.deferred none)
    have c0 := Box.cells (w := V.putObj (w.heap.size + 6) (.deferred none)) ⟨_, at_but HX.out.res KP (by omega)⟩
    have c1 := Box.cells (w := V.putObj (w.heap.size + 6) (.deferred none)) ⟨_, at_but e1 KP (by omega)⟩
    refine ⟨by simp, .inl ⟨_, _, rfl, run_takeDeferred HD.out, ?_⟩⟩
    refine ⟨.tuple #[manVal noMan (.slice none 0 0) (.slice none 0 0) (.slice none 0 0) (.slice none 0 0), faultP q], ?_, ?_⟩
    · unfold zeroMan at c0
      simp [results, Tryz.results6, go_sem, c0, c1, manVal, noMan]
      done
    · have NQ : q ≠ w.heap.size + 6 := by
        rintro rfl
        obtain ⟨t, ht⟩ := e2
        rw [HD.out] at ht
        cases ht
      exact par_err (HX.out.keep.butNew KP (fun x hx => by omega)) e3 (.inr ⟨q, _, _, _, e0, rfl, rfl, e2.but KP NQ⟩)
theorem mParse : PManParse MPre := fun s w hs hP => by
  obtain ⟨l, rfl⟩ : ∃ l, s = bsL l := ⟨s.data.toList, bs_of rfl⟩
  rw [bs_size] at hs
  exact mparse_walk l hs w hP
end Go.Proofs.YteddflbidafebaaGreatDoor
