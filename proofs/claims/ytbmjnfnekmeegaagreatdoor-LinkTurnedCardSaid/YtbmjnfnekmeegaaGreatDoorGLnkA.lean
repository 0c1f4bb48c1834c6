/- LnkAt, LnkIdx, LnkObj: Objects as they lie, one behind the other; what the program's link is to answer. Pre: what is laid ahead of a call. -/
import Derived.Test.YtbmjnfnekmeegaaGreatDoorGManA
import Derived.Test.YtbmjnfnekmeegaaGreatDoorImgAt
import Derived.Test.YtbmjnfnekmeegaaGreatDoorGPlainI
import Derived.Test.YtbmjnfnekmeegaaGreatDoorGRows
import Derived.Test.YtbmjnfnekmeegaaGreatDoorObjNz
import Derived.Test.YtbmjnfnekmeegaaGreatDoorGPlainM
import Derived.Test.YtbmjnfnekmeegaaGreatDoorGObjF
/- Objects as they lie, one behind the other; what the program's link is to answer. Pre: what is laid ahead of a call. -/
namespace Go.Proofs.YtbmjnfnekmeegaaGreatDoor
set_option linter.unusedVariables false
set_option linter.unusedSimpArgs false
open Go Go.RowKit
/-- An object's code, data, symbols, relocations. -/
abbrev V4 := Value × Value × Value × Value
def objRow (q : ObjV × V4) : List Value := [.string q.1.name, q.2.1, q.2.2.1, q.2.2.2.1, q.2.2.2.2]
theorem objRow_length (q : ObjV × V4) : (objRow q).length = 5 := rfl
structure ObjsAt (w : World) (v : Value) (l : List ObjV) (qs : List V4) : Prop where
  row : SlAt w v l.length ((l.zip qs).flatMap objRow)
  nqs : qs.length = l.length
  at_ : ∀ (k : Nat) (o : ObjV) (q : V4), l[k]? = some o → qs[k]? = some q → ObjAt w o q.1 q.2.1 q.2.2.1 q.2.2.2
theorem ObjsAt.keep {w w' : World} {v : Value} {l : List ObjV} {qs : List V4} (h : ObjsAt w v l qs) (k : Keep w w') : ObjsAt w' v l qs :=
  ⟨h.row.keep k, h.nqs, fun j o q a b => (h.at_ j o q a b).keep k⟩
theorem lzip_split {α β : Type} (l : List (α × β)) : (l.map Prod.fst).zip (l.map Prod.snd) = l := by
  induction l with
  | nil => rfl
  | cons a l ih => rw [List.map_cons, List.map_cons, List.zip_cons_cons, ih]
/-- An error of the linker as a value. -/
def LErr (w : World) (u : Value) (x : Option LnkW) : Prop := match x with
  | none => u = .nilIface
  | some (o, i) => (i = okW ∧ o.2.2 ≠ 0 ∧ OErr w u o) ∨ (i.2.2 ≠ 0 ∧ ∃ q q2, u = faultP q ∧ Box w q #[.string o.1, .int .i64 o.2.1, faultP q2] ∧ Box w q2 #[.string i.1, .int .i64 i.2.1, .iface 139 (.int .i64 i.2.2)])
theorem LErr.keep {w w' : World} {u : Value} {x : Option LnkW} (h : LErr w u x) (k : Keep w w') : LErr w' u x := by
  unfold LErr at h ⊢
  split
  · exact h
  · rename_i o i
    rcases h with ⟨a, b, c⟩ | ⟨a, q, q2, b, c, d⟩
    · exact .inl ⟨a, b, c.keep k⟩
    · exact .inr ⟨a, q, q2, b, c.keep k, d.keep k⟩
theorem LErr.good {w : World} {u : Value} (h : LErr w u none) : u = .nilIface := h
theorem LErr.bad {w : World} {u : Value} {x : LnkW} (h : LErr w u (some x)) : ∃ q, u = faultP q := by
  obtain ⟨o, i⟩ := x
  rcases h with ⟨a, b, c⟩ | ⟨a, q, q2, b, c, d⟩
  · exact c.bad b
  · exact ⟨q, b⟩
/-- What of objects is not great: hasplaw19's Few. -/
structure ObjsFew (l : List ObjV) : Prop where
  len : l.length ≤ 10
  few : ∀ o ∈ l, ObjFew o
  num : ∀ o ∈ l, ObjNum o
def PLink (Pre : World → Prop) : Prop := ∀ (m : ManV) (vc vi vs vg : Value) (l : List ObjV) (vl : Value) (qs : List V4) (size : Int) (w : World), ManAt w m vc vi vs vg → ManMay m → ObjsAt w vl l qs → ObjsFew l → N32 size → Pre w →
  Calls Tryz.prog 9 #[manVal m vc vi vs vg, vl, .int .u32 size] w fun e w' => Keep w w' ∧ ∃ (vp us ui vb : Value) (ves : List Value) (u : Value), e = .returned (.tuple #[imgVal (lnkV m l size) vp us ui vb, u]) ∧ ImgAt w' (lnkV m l size) vp us ui vb ves ∧ LErr w' u (lnkW m l size)
theorem ManMay.num {m : ManV} (h : ManMay m) : Nat32 m.comps ∧ Nat32 m.shrs ∧ ∀ g ∈ m.grns, 0 ≤ g.perm := ⟨fun c hc => (h.compN c hc).2, fun c hc => (h.shrN c hc).2, fun g hg => (h.grnN g hg).2.2.1⟩
theorem ObjsFew.lnk {m : ManV} {l : List ObjV} (h : ObjsFew l) (hm : ManMay m) : LnkNum m l := ⟨hm.num.1, hm.num.2.1, fun o ho => (h.num o ho).syms, fun o ho r hr => ((h.num o ho).rels r hr).1⟩
/-- What is told is of no great size, and its numbers are such. -/
theorem lnkV_num {m : ManV} {l : List ObjV} (h : ObjsFew l) (hm : ManMay m) (size : Int) : ImgNum (lnkV m l size) := by
  unfold lnkV
  cases e : lnkL m l size with
  | error x => exact noImg_num
  | ok i => exact lnk_num (h.lnk hm) (fun o ho => ⟨(h.num o ho).code, (h.num o ho).data, fun r hr => ((h.num o ho).rels r hr).2.2⟩) hm.num.2.2 e
theorem lnkV_mid {m : ManV} {l : List ObjV} (h : ObjsFew l) (hm : ManMay m) (size : Int) : ImgMid (lnkV m l size) := by
  unfold lnkV
  cases e : lnkL m l size with
  | error x => exact noImg_mid
  | ok i =>
    have M := imgW_may (i := i) (by rw [lnk_may (h.lnk hm) e]; rfl)
    obtain ⟨rfl, h1, h2, h3, h4⟩ := lnk_room e
    have H := lnkE_none.1 h1
    have hb := M.bytes
    have hs : (lnkI m l size).size = size := rfl
    dsimp only
    refine ⟨by have := M.parts; omega, by have := M.shares; omega, by have := M.ninits; omega, by omega, fun p hp => ?_, fun p hp => ?_⟩
    · obtain ⟨k, hk, rfl⟩ := lnk_mem hp
      have := (h.few _ (H.obj_at hk).mem).name
      show (objOf l m.comps[k].name).name.size ≤ 1000
      omega
    · obtain ⟨k, hk, rfl⟩ := lnk_mem hp
      have := (H.obj_at hk).places
      show ((placesL _).map _).length ≤ 1000
      rw [List.length_map]; omega
end Go.Proofs.YtbmjnfnekmeegaaGreatDoor

/- Where a manifest's and the objects' rows lie; first places of a name, plain. -/
namespace Go.Proofs.YtbmjnfnekmeegaaGreatDoor
set_option linter.unusedVariables false
set_option linter.unusedSimpArgs false
open Go Go.RowKit
theorem idxL_at (n : ByteArray) : ∀ (l : List CompV) (i k : Nat) (c : CompV), l[k]? = some c → c.name = n → (∀ (j : Nat) (x : CompV), j < k → l[j]? = some x → x.name ≠ n) → idxL l n i = ((i + k : Nat) : Int)
  | [], _, k, c, h, _, _ => by simp at h
  | x :: l, i, 0, c, h, hs, _ => by
    simp at h
    subst h
    unfold idxL
    rw [if_pos hs, Nat.add_zero]
  | x :: l, i, k + 1, c, h, hs, hn => by
    have h0 := hn 0 x (by omega) rfl
    unfold idxL
    rw [if_neg h0, idxL_at n l (i + 1) k c (by simpa using h) hs fun j y hj hy => hn (j + 1) y (by omega) (by simpa using hy)]
    congr 1
    omega
theorem idxL_no (n : ByteArray) : ∀ (l : List CompV) (i : Nat), (∀ (j : Nat) (x : CompV), l[j]? = some x → x.name ≠ n) → idxL l n i = -1
  | [], _, _ => rfl
  | x :: l, i, hn => by
    unfold idxL
    rw [if_neg (hn 0 x rfl)]
    exact idxL_no n l (i + 1) fun j y hy => hn (j + 1) y (by simpa using hy)
/-- The first object of a name. -/
def idxO : List ObjV → ByteArray → Nat → Int
  | [], _, _ => -1
  | o :: r, n, i => if o.name = n then i else idxO r n (i + 1)
theorem idxO_at (n : ByteArray) : ∀ (l : List ObjV) (i k : Nat) (c : ObjV), l[k]? = some c → c.name = n → (∀ (j : Nat) (x : ObjV), j < k → l[j]? = some x → x.name ≠ n) → idxO l n i = ((i + k : Nat) : Int)
  | [], _, k, c, h, _, _ => by simp at h
  | x :: l, i, 0, c, h, hs, _ => by
    simp at h
    subst h
    unfold idxO
    rw [if_pos hs, Nat.add_zero]
  | x :: l, i, k + 1, c, h, hs, hn => by
    have h0 := hn 0 x (by omega) rfl
    unfold idxO
    rw [if_neg h0, idxO_at n l (i + 1) k c (by simpa using h) hs fun j y hj hy => hn (j + 1) y (by omega) (by simpa using hy)]
    congr 1
    omega
theorem idxO_no (n : ByteArray) : ∀ (l : List ObjV) (i : Nat), (∀ (j : Nat) (x : ObjV), l[j]? = some x → x.name ≠ n) → idxO l n i = -1
  | [], _, _ => rfl
  | x :: l, i, hn => by
    unfold idxO
    rw [if_neg (hn 0 x rfl)]
    exact idxO_no n l (i + 1) fun j y hy => hn (j + 1) y (by simpa using hy)
theorem ManAt.compsAt {w : World} {m : ManV} {vc vi vs vg : Value} (h : ManAt w m vc vi vs vg) : ∃ p cap, vc = .slice p m.comps.length cap ∧ m.comps.length ≤ cap ∧ (m.comps = [] ∨ ∃ b off, p = some ⟨b, off, none⟩ ∧ b < w.heap.size ∧ ∀ (k : Nat) (x : CompV), m.comps[k]? = some x →
    w.cell? ⟨b, off + k * 2, none⟩ = some (.string x.name) ∧ w.cell? ⟨b, off + k * 2 + 1, none⟩ = some (.int .u32 x.stack)) := by
  obtain ⟨p, cap, h1, h2, h3, h4⟩ := h.comps.rowsAt (m := 2) (fun _ => rfl)
  refine ⟨p, cap, h1, h2, ?_⟩
  rcases h4 with h4 | h4 | ⟨b, off, h4, h5, h6⟩
  · exact .inl h4
  · cases h4
  · exact .inr ⟨b, off, h4, h5, fun k x hx => ⟨h6 k x hx 0 _ (by decide) rfl, h6 k x hx 1 _ (by decide) rfl⟩⟩
theorem ManAt.shrsAt {w : World} {m : ManV} {vc vi vs vg : Value} (h : ManAt w m vc vi vs vg) : ∃ p cap, vs = .slice p m.shrs.length cap ∧ m.shrs.length ≤ cap ∧ (m.shrs = [] ∨ ∃ b off, p = some ⟨b, off, none⟩ ∧ b < w.heap.size ∧ ∀ (k : Nat) (x : CompV), m.shrs[k]? = some x →
    w.cell? ⟨b, off + k * 2, none⟩ = some (.string x.name) ∧ w.cell? ⟨b, off + k * 2 + 1, none⟩ = some (.int .u32 x.stack)) := by
  obtain ⟨p, cap, h1, h2, h3, h4⟩ := h.shrs.rowsAt (m := 2) (fun _ => rfl)
  refine ⟨p, cap, h1, h2, ?_⟩
  rcases h4 with h4 | h4 | ⟨b, off, h4, h5, h6⟩
  · exact .inl h4
  · cases h4
  · exact .inr ⟨b, off, h4, h5, fun k x hx => ⟨h6 k x hx 0 _ (by decide) rfl, h6 k x hx 1 _ (by decide) rfl⟩⟩
theorem ManAt.impsAt {w : World} {m : ManV} {vc vi vs vg : Value} (h : ManAt w m vc vi vs vg) : ∃ p cap, vi = .slice p m.imps.length cap ∧ m.imps.length ≤ cap ∧ (m.imps = [] ∨ ∃ b off, p = some ⟨b, off, none⟩ ∧ b < w.heap.size ∧ ∀ (k : Nat) (x : ImpV), m.imps[k]? = some x →
    w.cell? ⟨b, off + k * 3, none⟩ = some (.string x.comp) ∧ w.cell? ⟨b, off + k * 3 + 1, none⟩ = some (.string x.from_) ∧ w.cell? ⟨b, off + k * 3 + 2, none⟩ = some (.string x.name)) := by
  obtain ⟨p, cap, h1, h2, h3, h4⟩ := h.imps.rowsAt (m := 3) (fun _ => rfl)
  refine ⟨p, cap, h1, h2, ?_⟩
  rcases h4 with h4 | h4 | ⟨b, off, h4, h5, h6⟩
  · exact .inl h4
  · cases h4
  · exact .inr ⟨b, off, h4, h5, fun k x hx => ⟨h6 k x hx 0 _ (by decide) rfl, h6 k x hx 1 _ (by decide) rfl, h6 k x hx 2 _ (by decide) rfl⟩⟩
theorem ManAt.grnsAt {w : World} {m : ManV} {vc vi vs vg : Value} (h : ManAt w m vc vi vs vg) : ∃ p cap, vg = .slice p m.grns.length cap ∧ m.grns.length ≤ cap ∧ (m.grns = [] ∨ ∃ b off, p = some ⟨b, off, none⟩ ∧ b < w.heap.size ∧ ∀ (k : Nat) (x : GrnV), m.grns[k]? = some x →
    w.cell? ⟨b, off + k * 3, none⟩ = some (.string x.comp) ∧ w.cell? ⟨b, off + k * 3 + 1, none⟩ = some (.string x.share) ∧ w.cell? ⟨b, off + k * 3 + 2, none⟩ = some (.int .u16 x.perm)) := by
  obtain ⟨p, cap, h1, h2, h3, h4⟩ := h.grns.rowsAt (m := 3) (fun _ => rfl)
  refine ⟨p, cap, h1, h2, ?_⟩
  rcases h4 with h4 | h4 | ⟨b, off, h4, h5, h6⟩
  · exact .inl h4
  · cases h4
  · exact .inr ⟨b, off, h4, h5, fun k x hx => ⟨h6 k x hx 0 _ (by decide) rfl, h6 k x hx 1 _ (by decide) rfl, h6 k x hx 2 _ (by decide) rfl⟩⟩
theorem ObjsAt.objsAt {w : World} {v : Value} {l : List ObjV} {qs : List V4} (h : ObjsAt w v l qs) : ∃ p cap, v = .slice p l.length cap ∧ l.length ≤ cap ∧ (l = [] ∨ ∃ b off, p = some ⟨b, off, none⟩ ∧ b < w.heap.size ∧ ∀ (k : Nat) (o : ObjV) (q : V4), l[k]? = some o → qs[k]? = some q →
    w.cell? ⟨b, off + k * 5, none⟩ = some (.string o.name) ∧ w.cell? ⟨b, off + k * 5 + 1, none⟩ = some q.1 ∧ w.cell? ⟨b, off + k * 5 + 2, none⟩ = some q.2.1 ∧ w.cell? ⟨b, off + k * 5 + 3, none⟩ = some q.2.2.1 ∧ w.cell? ⟨b, off + k * 5 + 4, none⟩ = some q.2.2.2) := by
  have hl : (l.zip qs).length = l.length := by rw [List.length_zip, h.nqs]; omega
  have hp := h.row
  rw [← hl] at hp
  obtain ⟨p, cap, h1, h2, h3, h4⟩ := hp.rowsAt (m := 5) (fun _ => rfl)
  rw [hl] at h1 h2
  refine ⟨p, cap, h1, h2, ?_⟩
  rcases h4 with h4 | h4 | ⟨b, off, h4, h5, h6⟩
  · left
    have := congrArg List.length h4
    rw [hl] at this
    exact List.length_eq_zero_iff.1 (by simpa using this)
  · cases h4
  · refine .inr ⟨b, off, h4, h5, fun k o q hx hv => ?_⟩
    have g := h6 k (o, q) (List.getElem?_zip_eq_some.2 ⟨hx, hv⟩)
    exact ⟨g 0 _ (by decide) rfl, g 1 _ (by decide) rfl, g 2 _ (by decide) rfl, g 3 _ (by decide) rfl, g 4 _ (by decide) rfl⟩
theorem cidx_has (n : ByteArray) : ∀ (l : List CompV) (i : Nat), (hasC l n = true ∧ (i : Int) ≤ idxL l n i) ∨ (hasC l n = false ∧ idxL l n i = -1)
  | [], i => .inr ⟨rfl, rfl⟩
  | c :: r, i => by
    unfold idxL hasC
    rw [List.any_cons]
    by_cases h : c.name = n
    · rw [if_pos h, decide_eq_true h]
      exact .inl ⟨rfl, Int.le_refl _⟩
    · rw [if_neg h, decide_eq_false h, Bool.false_or]
      rcases cidx_has n r (i + 1) with ⟨a, b⟩ | ⟨a, b⟩
      · exact .inl ⟨a, by omega⟩
      · exact .inr ⟨a, b⟩
theorem cidx_neg (n : ByteArray) (l : List CompV) : decide (idxL l n 0 < 0) = !hasC l n := by
  rcases cidx_has n l 0 with ⟨a, b⟩ | ⟨a, b⟩
  · rw [a, decide_eq_false (by omega)]; rfl
  · rw [a, b]; rfl
def lrelVal (r : RelV) : Value := .agg #[.int .i64 r.kind, .int .u32 r.off, .string r.comp, .string r.name, .int .u16 r.perm]
end Go.Proofs.YtbmjnfnekmeegaaGreatDoor

/- What is wrong of the objects, part by part: as the reference's objects goes. -/
namespace Go.Proofs.YtbmjnfnekmeegaaGreatDoor
set_option linter.unusedVariables false
set_option linter.unusedSimpArgs false
open Go Go.RowKit
theorem idxO_F (n : ByteArray) : ∀ (l : List ObjV) (i : Nat), idxO l n i = idxF (fun o => decide (o.name = n)) l i
  | [], _ => rfl
  | c :: r, i => by
    unfold idxO idxF
    rw [idxO_F n r (i + 1)]
    by_cases h : c.name = n
    · rw [if_pos h, if_pos (decide_eq_true h)]
    · rw [if_neg h, if_neg (by simpa using h)]
theorem idxO_ahead {l : List ObjV} {i : Nat} {o : ObjV} (h : l[i]? = some o) : decide (idxO l o.name 0 < (i : Int)) = (l.take i).any fun p => decide (p.name = o.name) := by
  rw [idxO_F]
  have := idxF_lt (f := fun p => decide (p.name = o.name)) l 0 i o h (decide_eq_true rfl)
  rw [Nat.zero_add] at this
  exact this
theorem idxO_find (n : ByteArray) : ∀ (l : List ObjV) (i : Nat), (findO l n = none ∧ idxO l n i = -1) ∨ ∃ (k : Nat) (o : ObjV), findO l n = some o ∧ l[k]? = some o ∧ o.name = n ∧ idxO l n i = ((i + k : Nat) : Int)
  | [], _ => .inl ⟨rfl, rfl⟩
  | c :: r, i => by
    by_cases h : c.name = n
    · refine .inr ⟨0, c, ?_, rfl, h, ?_⟩
      · unfold findO
        rw [List.find?_cons_of_pos (by simpa using h)]
      · unfold idxO
        rw [if_pos h, Nat.add_zero]
    · have e : findO (c :: r) n = findO r n := by
        unfold findO
        rw [List.find?_cons_of_neg (by simpa using h)]
      have e2 : idxO (c :: r) n i = idxO r n (i + 1) := by
        rw [idxO, if_neg h]
      rcases idxO_find n r (i + 1) with ⟨a, b⟩ | ⟨k, o, a, b, d, f⟩
      · exact .inl ⟨e.trans a, e2.trans b⟩
      · refine .inr ⟨k + 1, o, e.trans a, by simpa using b, d, ?_⟩
        rw [e2, f]
        congr 1
        omega
theorem objOf_find {l : List ObjV} {n : ByteArray} {o : ObjV} (h : findO l n = some o) : objOf l n = o := by
  unfold objOf
  rw [h]
  rfl
theorem lobjE_at {m : ManV} {l : List ObjV} {i : Nat} {o : ObjV} (h : l[i]? = some o) : lobjE m l i = if (objW o).2.2 ≠ 0 then some ((objectT, (i : Int), 0), objW o) else if hasC m.comps o.name = false then some ((objectT, (i : Int), 12), okW) else if ((l.take i).any fun p => decide (p.name = o.name)) = true then some ((objectT, (i : Int), 13), okW) else none := by
  unfold lobjE
  rw [h]
theorem lcompE_none {m : ManV} {l : List ObjV} {i : Nat} {c : CompV} (h : m.comps[i]? = some c) (hf : findO l c.name = none) : lcompE m l i = some (((compT, (i : Int), 12) : WrV), okW) := by
  unfold lcompE
  rw [h]
  dsimp only
  rw [hf]
theorem lcompE_some {m : ManV} {l : List ObjV} {i : Nat} {c : CompV} {o : ObjV} (h : m.comps[i]? = some c) (hf : findO l c.name = some o) : lcompE m l i = if o.code.length = 0 then some ((compT, (i : Int), 16), okW) else if (placesL o).length > 64 then some ((compT, (i : Int), 15), okW) else none := by
  unfold lcompE
  rw [h]
  dsimp only
  rw [hf]
theorem limpE_at {m : ManV} {l : List ObjV} {i : Nat} {x : ImpV} (h : m.imps[i]? = some x) : limpE m l i = if exportsO (objOf l x.from_) x.name = true then none else some ((importT, (i : Int), 12), okW) := by
  unfold limpE
  rw [h]
/-- How many Rels the first k comps have. -/
def relsTo (m : ManV) (l : List ObjV) (k : Nat) : Nat := ((m.comps.take k).map fun c => (objOf l c.name).rels.length).sum
theorem relsTo_zero (m : ManV) (l : List ObjV) : relsTo m l 0 = 0 := by
  unfold relsTo
  rw [List.take_zero]
  rfl
theorem relsTo_all (m : ManV) (l : List ObjV) : relsTo m l m.comps.length = relsN m l := by
  unfold relsTo relsN
  rw [List.take_length]
theorem relsTo_next {m : ManV} {l : List ObjV} {k : Nat} {c : CompV} (h : m.comps[k]? = some c) : relsTo m l (k + 1) = relsTo m l k + (objOf l c.name).rels.length := by
  unfold relsTo
  rw [List.take_add_one, h, Option.toList_some, List.map_append, List.sum_append]
  simp
theorem relsTo_le {m : ManV} {l : List ObjV} {b : Nat} (h : ∀ c ∈ m.comps, (objOf l c.name).rels.length ≤ b) : ∀ k, k ≤ m.comps.length → relsTo m l k ≤ k * b
  | 0, _ => by rw [relsTo_zero]; exact Nat.zero_le _
  | k + 1, hk => by
    have hlt : k < m.comps.length := by omega
    rw [relsTo_next (List.getElem?_eq_getElem hlt)]
    have a := relsTo_le h k (by omega)
    have b' := h _ (List.getElem_mem hlt)
    have e : (k + 1) * b = k * b + b := Nat.succ_mul k b
    omega
/-- What the reference's objects tells. -/
def lobjsE (m : ManV) (l : List ObjV) : Option LnkW := match firstO (lobjE m l) l.length 0 with
  | some x => some x
  | none => match firstO (lcompE m l) m.comps.length 0 with
    | some x => some x
    | none => if relsN m l > 512 then some ((relsT, relsN m l, 15), okW) else firstO (limpE m l) m.imps.length 0
theorem lobjsE_obj {m : ManV} {l : List ObjV} {x : LnkW} (h : firstO (lobjE m l) l.length 0 = some x) : lobjsE m l = some x := by
  unfold lobjsE
  rw [h]
theorem lobjsE_comp {m : ManV} {l : List ObjV} {x : LnkW} (h0 : firstO (lobjE m l) l.length 0 = none) (h : firstO (lcompE m l) m.comps.length 0 = some x) : lobjsE m l = some x := by
  unfold lobjsE
  rw [h0]
  dsimp only
  rw [h]
theorem lobjsE_rels {m : ManV} {l : List ObjV} (h0 : firstO (lobjE m l) l.length 0 = none) (h1 : firstO (lcompE m l) m.comps.length 0 = none) (h : relsN m l > 512) : lobjsE m l = some (((relsT, (relsN m l : Int), 15) : WrV), okW) := by
  unfold lobjsE
  rw [h0]
  dsimp only
  rw [h1]
  exact if_pos h
theorem lobjsE_imp {m : ManV} {l : List ObjV} (h0 : firstO (lobjE m l) l.length 0 = none) (h1 : firstO (lcompE m l) m.comps.length 0 = none) (h : ¬ relsN m l > 512) : lobjsE m l = firstO (limpE m l) m.imps.length 0 := by
  unfold lobjsE
  rw [h0]
  dsimp only
  rw [h1]
  exact if_neg h
theorem lnkE_man {m : ManV} {l : List ObjV} (h : (manW m).2.2 ≠ 0) : lnkE m l = some (manW m, okW) := if_pos h
theorem lnkE_objs {m : ManV} {l : List ObjV} (h : (manW m).2.2 = 0) : lnkE m l = match lobjsE m l with
    | some x => some x
    | none => match firstO (lrelsE m l) m.comps.length 0 with
      | some x => some x
      | none => if exportsO (objOf l m.start.from_) m.start.name = false then some ((mstartT, 0, 12), okW) else none := by
  unfold lnkE lobjsE
  rw [if_neg (by simpa using h)]
  cases h0 : firstO (lobjE m l) l.length 0 with
  | some x => rfl
  | none =>
    dsimp only
    cases h1 : firstO (lcompE m l) m.comps.length 0 with
    | some x => rfl
    | none =>
      dsimp only
      by_cases h2 : relsN m l > 512
      · rw [if_pos h2, if_pos h2]
      · rw [if_neg h2, if_neg h2]
        cases h3 : firstO (limpE m l) m.imps.length 0 with
        | some x => rfl
        | none => rfl
end Go.Proofs.YtbmjnfnekmeegaaGreatDoor
