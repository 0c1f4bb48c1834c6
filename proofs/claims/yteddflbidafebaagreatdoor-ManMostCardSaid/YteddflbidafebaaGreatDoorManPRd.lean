/- The program's reader as it lies; what a line makes of it. -/
import Derived.Test.YteddflbidafebaaGreatDoorManPNum
import Derived.Test.YteddflbidafebaaGreatDoorGBase
import Derived.Test.YteddflbidafebaaGreatDoorGRows
namespace Go.Proofs.YteddflbidafebaaGreatDoor
set_option linter.unusedVariables false
set_option linter.unusedSimpArgs false
open Go.RowKit
/-- A reader at block r: what its cells say, and the four rows that are its own. -/
structure RdG (W : World) (r : Nat) (m : ManV) (bx : Array Value) (vc vi vs vg : Value) : Prop where
  box : W.heap[r]? = some (.cells bx 54)
  comps : W.ownsRow (r + 1) 44 2 vc m.comps.length (m.comps.flatMap compRow)
  imps : W.ownsRow (r + 1) 32 3 vi m.imps.length (m.imps.flatMap impRow)
  shrs : W.ownsRow (r + 1) 74 2 vs m.shrs.length (m.shrs.flatMap compRow)
  grns : W.ownsRow (r + 1) 46 3 vg m.grns.length (m.grns.flatMap grnRow)
def rdBox (m : ManV) (kd : ByteArray) (vc vi vs vg : Value) : Array Value := #[vc, vi, vs, vg, .string m.start.comp, .string m.start.from_, .string m.start.name, .string kd]
def RdM (W : World) (r : Nat) (m : ManV) (kd : ByteArray) (vc vi vs vg : Value) : Prop := RdG W r m (rdBox m kd vc vi vs vg) vc vi vs vg
/-- The blocks that are the reader's. -/
def RdS (r : Nat) (vc vi vs vg : Value) : Nat → Prop := fun z => z = r ∨ vc.ownBlock = some z ∨ vi.ownBlock = some z ∨ vs.ownBlock = some z ∨ vg.ownBlock = some z
theorem own_obj {W : World} {base : Nat} {e : TypeId} {size : Nat} {v : Value} {n : Nat} {xs : List Value} (h : W.ownsRow base e size v n xs) {g : Nat} (hg : v.ownBlock = some g) : base ≤ g ∧ ∃ cur fr, W.heap[g]? = some (.cells cur e fr) := by
  obtain ⟨h1, h2 | ⟨g', cap, cur, hv, hb, hgg, h3⟩⟩ := h
  · rw [h2.1] at hg; simp [Value.ownBlock] at hg
  · rw [hv] at hg
    simp [Value.ownBlock] at hg
    subst hg
    exact ⟨hb, _, _, hgg⟩
theorem own_apart {W : World} {b1 b2 : Nat} {e1 e2 : TypeId} {s1 s2 : Nat} {v1 v2 : Value} {n1 n2 : Nat} {x1 x2 : List Value} (h1 : W.ownsRow b1 e1 s1 v1 n1 x1) (h2 : W.ownsRow b2 e2 s2 v2 n2 x2) (he : e1 ≠ e2) {g : Nat} (hg : v1.ownBlock = some g) : ¬ v2.ownBlock = some g := by
  intro h
  obtain ⟨_, c1, f1, e⟩ := own_obj h1 hg
  obtain ⟨_, c2, f2, e'⟩ := own_obj h2 h
  rw [e] at e'
  simp at e'
  exact he e'.2.1
theorem RdG.lt {W : World} {r : Nat} {m : ManV} {bx : Array Value} {vc vi vs vg : Value} (h : RdG W r m bx vc vi vs vg) : r < W.heap.size := (Array.getElem?_eq_some_iff.1 h.box).1
theorem RdG.bx {W : World} {r : Nat} {m : ManV} {bx : Array Value} {vc vi vs vg : Value} (h : RdG W r m bx vc vi vs vg) : Box W r bx := ⟨_, h.box⟩
theorem RdG.keep {W W' : World} {r : Nat} {m : ManV} {bx : Array Value} {vc vi vs vg : Value} (h : RdG W r m bx vc vi vs vg) (k : Keep W W') : RdG W' r m bx vc vi vs vg :=
  ⟨by rw [Below.block k r h.lt]; exact h.box, owns_keep h.comps k, owns_keep h.imps k, owns_keep h.shrs k, owns_keep h.grns k⟩
theorem own_new {W : World} {base : Nat} {e : TypeId} {size : Nat} {v : Value} {n : Nat} {xs : List Value} (h : W.ownsRow base e size v n xs) {g : Nat} (hg : v.ownBlock = some g) : g < W.heap.size := by
  obtain ⟨_, c, f, e⟩ := own_obj h hg
  exact (Array.getElem?_eq_some_iff.1 e).1
theorem RdG.old {W : World} {r : Nat} {m : ManV} {bx : Array Value} {vc vi vs vg : Value} (h : RdG W r m bx vc vi vs vg) {z : Nat} (hz : RdS r vc vi vs vg z) : z < W.heap.size := by
  rcases hz with rfl | hz | hz | hz | hz
  · exact h.lt
  · exact own_new h.comps hz
  · exact own_new h.imps hz
  · exact own_new h.shrs hz
  · exact own_new h.grns hz
/-- A cell of the reader's is written. -/
theorem RdG.set {W : World} {r : Nat} {m : ManV} {bx : Array Value} {vc vi vs vg : Value} (h : RdG W r m bx vc vi vs vg) (i : Nat) (v : Value) : RdG (W.setCell ⟨r, i, none⟩ v) r m (bx.setIfInBounds i v) vc vi vs vg := by
  have K : KeepBut (fun z => z = r) W (W.setCell ⟨r, i, none⟩ v) := KeepBut.setAt (S := fun z => z = r) (.inl rfl) (KeepBut.refl _ _) v
  refine ⟨?_, ?_, ?_, ?_, ?_⟩
  · simp only [World.setCell, Array.getElem?_modify, if_pos rfl, h.box]
    rfl
  · exact owns_but h.comps K (fun g hg e => by have := (own_obj h.comps hg).1; omega)
  · exact owns_but h.imps K (fun g hg e => by have := (own_obj h.imps hg).1; omega)
  · exact owns_but h.shrs K (fun g hg e => by have := (own_obj h.shrs hg).1; omega)
  · exact owns_but h.grns K (fun g hg e => by have := (own_obj h.grns hg).1; omega)
theorem RdG.addC {W V : World} {r : Nat} {m : ManV} {bx : Array Value} {vc vi vs vg v : Value} (h : RdG W r m bx vc vi vs vg) (c : CompV) (g : W.grownBy V vc.ownBlock) (o : V.ownsRow (r + 1) 44 2 v (m.comps.length + 1) (m.comps.flatMap compRow ++ compRow c)) : RdG V r { m with comps := m.comps ++ [c] } bx v vi vs vg := by
  have K := grown_but g (fun z => vc.ownBlock = some z) (fun _ h => h)
  refine ⟨?_, by simpa using o, owns_but h.imps K (fun g hg e => own_apart h.comps h.imps (by decide) e hg), owns_but h.shrs K (fun g hg e => own_apart h.comps h.shrs (by decide) e hg), owns_but h.grns K (fun g hg e => own_apart h.comps h.grns (by decide) e hg)⟩
  rw [g.block r h.lt (fun e => by have := (own_obj h.comps e.symm).1; omega)]; exact h.box
theorem RdG.addI {W V : World} {r : Nat} {m : ManV} {bx : Array Value} {vc vi vs vg v : Value} (h : RdG W r m bx vc vi vs vg) (c : ImpV) (g : W.grownBy V vi.ownBlock) (o : V.ownsRow (r + 1) 32 3 v (m.imps.length + 1) (m.imps.flatMap impRow ++ impRow c)) : RdG V r { m with imps := m.imps ++ [c] } bx vc v vs vg := by
  have K := grown_but g (fun z => vi.ownBlock = some z) (fun _ h => h)
  refine ⟨?_, owns_but h.comps K (fun g hg e => own_apart h.imps h.comps (by decide) e hg), by simpa using o, owns_but h.shrs K (fun g hg e => own_apart h.imps h.shrs (by decide) e hg), owns_but h.grns K (fun g hg e => own_apart h.imps h.grns (by decide) e hg)⟩
  rw [g.block r h.lt (fun e => by have := (own_obj h.imps e.symm).1; omega)]; exact h.box
theorem RdG.addS {W V : World} {r : Nat} {m : ManV} {bx : Array Value} {vc vi vs vg v : Value} (h : RdG W r m bx vc vi vs vg) (c : CompV) (g : W.grownBy V vs.ownBlock) (o : V.ownsRow (r + 1) 74 2 v (m.shrs.length + 1) (m.shrs.flatMap compRow ++ compRow c)) : RdG V r { m with shrs := m.shrs ++ [c] } bx vc vi v vg := by
  have K := grown_but g (fun z => vs.ownBlock = some z) (fun _ h => h)
  refine ⟨?_, owns_but h.comps K (fun g hg e => own_apart h.shrs h.comps (by decide) e hg), owns_but h.imps K (fun g hg e => own_apart h.shrs h.imps (by decide) e hg), by simpa using o, owns_but h.grns K (fun g hg e => own_apart h.shrs h.grns (by decide) e hg)⟩
  rw [g.block r h.lt (fun e => by have := (own_obj h.shrs e.symm).1; omega)]; exact h.box
theorem RdG.addG {W V : World} {r : Nat} {m : ManV} {bx : Array Value} {vc vi vs vg v : Value} (h : RdG W r m bx vc vi vs vg) (c : GrnV) (g : W.grownBy V vg.ownBlock) (o : V.ownsRow (r + 1) 46 3 v (m.grns.length + 1) (m.grns.flatMap grnRow ++ grnRow c)) : RdG V r { m with grns := m.grns ++ [c] } bx vc vi vs v := by
  have K := grown_but g (fun z => vg.ownBlock = some z) (fun _ h => h)
  refine ⟨?_, owns_but h.comps K (fun g hg e => own_apart h.grns h.comps (by decide) e hg), owns_but h.imps K (fun g hg e => own_apart h.grns h.imps (by decide) e hg), owns_but h.shrs K (fun g hg e => own_apart h.grns h.shrs (by decide) e hg), by simpa using o⟩
  rw [g.block r h.lt (fun e => by have := (own_obj h.grns e.symm).1; omega)]; exact h.box
/-! ### What a line makes of what has been read -/
abbrev OptW := Option (List (List UInt8))
def outT (fT : OptW) (m : ManV) : Except Int (ManV × Nat) := match fT with
  | some [a, b] => .ok ({ m with start := ⟨⟨#[]⟩, bsL a, bsL b⟩ }, 5)
  | _ => .error 11
def outG (fG fT : OptW) (m : ManV) : Except Int (ManV × Nat) := match fG with
  | some [a, b, c] => (match permL c with
    | some p => .ok ({ m with grns := m.grns ++ [⟨bsL a, bsL b, p⟩] }, 4)
    | none => .error 11)
  | _ => outT fT m
def outS (fS fG fT : OptW) (m : ManV) : Except Int (ManV × Nat) := match fS with
  | some [a, b] => (match numD b with
    | .error e => .error e
    | .ok n => .ok ({ m with shrs := m.shrs ++ [⟨bsL a, n⟩] }, 3))
  | _ => outG fG fT m
def outI (fI fS fG fT : OptW) (m : ManV) : Except Int (ManV × Nat) := match fI with
  | some [a, b, c] => .ok ({ m with imps := m.imps ++ [⟨bsL a, bsL b, bsL c⟩] }, 2)
  | _ => outS fS fG fT m
def outC (fC fI fS fG fT : OptW) (m : ManV) : Except Int (ManV × Nat) := match fC with
  | some [a, b] => (match numD b with
    | .error e => .error e
    | .ok n => .ok ({ m with comps := m.comps ++ [⟨bsL a, n⟩] }, 1))
  | _ => outI fI fS fG fT m
def kindB (ph : Nat) : ByteArray := if ph ≤ 1 then ⟨#[99, 111, 109, 112]⟩ else if ph = 2 then ⟨#[105, 109, 112, 111, 114, 116]⟩ else if ph = 3 then ⟨#[115, 104, 97, 114, 101]⟩ else if ph = 4 then ⟨#[103, 114, 97, 110, 116]⟩ else ⟨#[]⟩
/-- What line answers. -/
def LineR (w : World) (r : Nat) (S : Nat → Prop) (res : Except Int (ManV × Nat)) (e : Ending) (w' : World) : Prop := KeepBut S w w' ∧ match res with
  | .error n => n ≠ 0 ∧ e = .returned (.int .i64 n)
  | .ok (m', ph') => e = .returned (.int .i64 0) ∧ ∃ vc vi vs vg, RdM w' r m' (kindB ph') vc vi vs vg
theorem LineR.err {w w' : World} {r : Nat} {S : Nat → Prop} {res : Except Int (ManV × Nat)} {n : Int} (h : res = .error n) (hn : n ≠ 0) (k : KeepBut S w w') : LineR w r S res (.returned (.int .i64 n)) w' := by
  subst h; exact ⟨k, hn, rfl⟩
theorem LineR.ok {w w' : World} {r : Nat} {S : Nat → Prop} {res : Except Int (ManV × Nat)} {m' : ManV} {ph' : Nat} {vc vi vs vg : Value} (h : res = .ok (m', ph')) (k : KeepBut S w w') (hr : RdM w' r m' (kindB ph') vc vi vs vg) : LineR w r S res (.returned (.int .i64 0)) w' := by
  subst h; exact ⟨k, rfl, _, _, _, _, hr⟩
theorem numD_err {l : List UInt8} {e : Int} (h : numD l = .error e) : e ≠ 0 := by
  unfold numD at h
  split at h
  · cases h; decide
  · split at h
    · cases h; decide
    · cases h
theorem cellBut {S : Nat → Prop} {w w' : World} (k : KeepBut S w w') {b i : Nat} {v : Value} (hS : ¬ S b) (hc : w.cell? ⟨b, i, none⟩ = some v) : w'.cell? ⟨b, i, none⟩ = some v := by
  have hb := World.block_lt_of_cell? _ _ hc
  unfold World.cell? at hc ⊢
  rw [k.block b hb hS]; exact hc
/-- What words gives, as the walk wants it. -/
theorem WordsR.none {w w' : World} {n : Nat} {e : Ending} (h : WordsR w n e w' none) : Keep w w' ∧ ∃ v, e = .returned (.tuple #[v, .bool false]) := h
theorem RdG.ge {W : World} {r : Nat} {m : ManV} {bx : Array Value} {vc vi vs vg : Value} (h : RdG W r m bx vc vi vs vg) {z : Nat} (hz : RdS r vc vi vs vg z) : r ≤ z := by
  rcases hz with rfl | hz | hz | hz | hz
  · exact Nat.le_refl _
  · have := (own_obj h.comps hz).1; omega
  · have := (own_obj h.imps hz).1; omega
  · have := (own_obj h.shrs hz).1; omega
  · have := (own_obj h.grns hz).1; omega
/-- Where the walk of a line stands. -/
structure LnS (w : World) (r : Nat) (S : Nat → Prop) (m : ManV) (bx : Array Value) (vc vi vs vg : Value) (W : World) : Prop where
  rd : RdG W r m bx vc vi vs vg
  kb : KeepBut S w W
  rng : RngV W
  max : MaxL W
/-- The words of the line lie where no write goes. -/
structure WdS (S : Nat → Prop) (g : Nat) (ws : List (List UInt8)) (W : World) : Prop where
  no : ¬ S g
  cells : ∀ (j : Nat) x, ws[j]? = some x → W.cell? ⟨g, j, none⟩ = some (.string (bsL x))
theorem WdS.but {S : Nat → Prop} {g : Nat} {ws : List (List UInt8)} {W W' : World} (h : WdS S g ws W) (k : KeepBut S W W') : WdS S g ws W' := ⟨h.no, fun j x hx => cellBut k h.no (h.cells j x hx)⟩
theorem WdS.keep {S : Nat → Prop} {g : Nat} {ws : List (List UInt8)} {W W' : World} (h : WdS S g ws W) (k : Keep W W') : WdS S g ws W' := h.but (k.but S)
def LowS (S : Nat → Prop) : Prop := ¬ S 4 ∧ ¬ S 1
theorem LnS.next {w : World} {r : Nat} {S : Nat → Prop} {m m' : ManV} {bx bx' : Array Value} {vc vi vs vg vc' vi' vs' vg' : Value} {W W' : World} (h : LnS w r S m bx vc vi vs vg W) (hL : LowS S) (rd' : RdG W' r m' bx' vc' vi' vs' vg') (k : KeepBut S W W') : LnS w r S m' bx' vc' vi' vs' vg' W' :=
  ⟨rd', h.kb.trans k, h.rng.elim fun ev he => ⟨ev, cellBut k hL.1 he.1, he.2⟩, h.max.elim fun n hn => ⟨n, cellBut k hL.2 hn⟩⟩
theorem LnS.keep {w : World} {r : Nat} {S : Nat → Prop} {m : ManV} {bx : Array Value} {vc vi vs vg : Value} {W W' : World} (h : LnS w r S m bx vc vi vs vg W) (k : Keep W W') : LnS w r S m bx vc vi vs vg W' :=
  ⟨h.rd.keep k, h.kb.trans (k.but S), h.rng.keep k, h.max.keep k⟩
theorem setS {S : Nat → Prop} {r : Nat} (hr : S r) (W : World) (i : Nat) (v : Value) : KeepBut S W (W.setCell ⟨r, i, none⟩ v) := KeepBut.setAt (.inl hr) (KeepBut.refl S W) v
theorem LnS.set {w : World} {r : Nat} {S : Nat → Prop} {m : ManV} {bx : Array Value} {vc vi vs vg : Value} {W : World} (h : LnS w r S m bx vc vi vs vg W) (hL : LowS S) (hr : S r) (i : Nat) (v : Value) : LnS w r S m (bx.setIfInBounds i v) vc vi vs vg (W.setCell ⟨r, i, none⟩ v) :=
  h.next hL (h.rd.set i v) (setS hr W i v)
theorem RdM.of {W : World} {r : Nat} {m : ManV} {bx : Array Value} {kd : ByteArray} {vc vi vs vg : Value} (h : RdG W r m bx vc vi vs vg) (e : bx = rdBox m kd vc vi vs vg) : RdM W r m kd vc vi vs vg := by subst e; exact h
theorem LineR.ofNum {w w' : World} {r : Nat} {S : Nat → Prop} {res : Except Int (ManV × Nat)} {b : List UInt8} {nv1 nv2 : Int} {f : Int → ManV} {ph' : Nat} {vc vi vs vg : Value} (V1 : (numV b).1 = nv1) (V2 : (numV b).2 = nv2)
    (h : res = match numD b with | .error e => .error e | .ok n => .ok (f n, ph')) (k : KeepBut S w w') (hr : RdM w' r (f nv1) (kindB ph') vc vi vs vg) : LineR w r S res (.returned (.int .i64 nv2)) w' := by
  unfold numV at V1 V2
  cases e : numD b with
  | error x =>
    rw [e] at V1 V2 h
    subst V2
    exact LineR.err h (numD_err e) k
  | ok n =>
    rw [e] at V1 V2 h
    subst V1 V2
    exact LineR.ok h k hr
theorem LineR.ofPerm {w w' : World} {r : Nat} {S : Nat → Prop} {res : Except Int (ManV × Nat)} {b : List UInt8} {nv1 nv2 : Int} {f : Int → ManV} {ph' : Nat} {vc vi vs vg : Value} (V1 : (permV b).1 = nv1) (V2 : (permV b).2 = nv2)
    (h : res = match permL b with | some p => .ok (f p, ph') | none => .error 11) (k : KeepBut S w w') (hr : RdM w' r (f nv1) (kindB ph') vc vi vs vg) : LineR w r S res (.returned (.int .i64 nv2)) w' := by
  unfold permV at V1 V2
  cases e : permL b with
  | none =>
    rw [e] at V1 V2 h
    subst V2
    exact LineR.err h (by decide) k
  | some n =>
    rw [e] at V1 V2 h
    subst V1 V2
    exact LineR.ok h k hr
end Go.Proofs.YteddflbidafebaaGreatDoor
