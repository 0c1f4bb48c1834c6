/- LkPla, LkFil, LkIn2, LkPlS, LkFlS, LkLnA: Where the linker lays things, plain: bounds, one part more. -/
import Derived.Test.YtbmjnfnekmeegaaGreatDoorGPlainM
import Derived.Test.YtbmjnfnekmeegaaGreatDoorGRows
import Derived.Test.YtbmjnfnekmeegaaGreatDoorGBase
import Derived.Laws.IdiomCopy
import Derived.Test.YtbmjnfnekmeegaaGreatDoorLkIni
import Derived.Test.YtbmjnfnekmeegaaGreatDoorGLkC
import Derived.Test.YtbmjnfnekmeegaaGreatDoorGLkA
import Derived.Test.YtbmjnfnekmeegaaGreatDoorGLkB
import Derived.Test.YtbmjnfnekmeegaaGreatDoorGIpB
import Derived.Test.YtbmjnfnekmeegaaGreatDoorAppSrc
import Derived.Test.YtbmjnfnekmeegaaGreatDoorShelf
import Derived.Laws.CopyOwn
import Derived.Laws.OwnMore
import Derived.Test.YtbmjnfnekmeegaaGreatDoorGTell
/- Where the linker lays things, plain: bounds, one part more. -/
namespace Go.Proofs.YtbmjnfnekmeegaaGreatDoor
set_option linter.unusedVariables false
set_option linter.unusedSimpArgs false
open Go.RowKit
/-- What the layout leans on: sizes. -/
structure PlH (m : ManV) (l : List ObjV) : Prop where
  comps : m.comps.length ≤ 8
  shrs : m.shrs.length ≤ 8
  comp : ∀ c ∈ m.comps, 0 ≤ c.stack ∧ c.stack ≤ 4096
  shr : ∀ c ∈ m.shrs, 0 ≤ c.stack ∧ c.stack ≤ 4096
  obj : ∀ c ∈ m.comps, (objOf l c.name).name = c.name ∧ (objOf l c.name).code.length ≤ 500 ∧ (objOf l c.name).data.length ≤ 500 ∧ (objOf l c.name).data.length % 16 = 0
  few : ∀ c ∈ m.comps, (placesL (objOf l c.name)).length ≤ 64
  ent : ∀ c ∈ m.comps, ∀ e ∈ placesL (objOf l c.name), 0 ≤ e ∧ e ≤ 16384
theorem fillN_of {n : Nat} (h : n % 16 = 0) : fillN n = (n : Int) := by unfold fillN; omega
theorem fillN_le {n : Nat} (h : n ≤ 500) : 0 ≤ fillN n ∧ fillN n ≤ 512 := by unfold fillN; omega
theorem lendC_le {m : ManV} {l : List ObjV} (H : PlH m l) {c : CompV} (hc : c ∈ m.comps) (a : Int) : a ≤ lendC l c a ∧ lendC l c a ≤ a + 5120 := by
  obtain ⟨_, h1, h2, h3⟩ := H.obj c hc
  have h4 := H.comp c hc
  have a1 := fillN_le h1
  have a2 := fillN_le h2
  unfold lendC
  omega
theorem lend_bound {m : ManV} {l : List ObjV} (H : PlH m l) : ∀ (cs : List CompV) (a : Int), (∀ c ∈ cs, c ∈ m.comps) → a ≤ lend l cs a ∧ lend l cs a ≤ a + cs.length * 5120
  | [], a, _ => by simp [lend]
  | c :: r, a, h => by
    have h1 := lendC_le H (h c (by simp)) a
    have h2 := lend_bound H r (lendC l c a) (fun d hd => h d (by simp [hd]))
    show a ≤ lend l r (lendC l c a) ∧ lend l r (lendC l c a) ≤ _
    rw [List.length_cons]
    omega
theorem lend_k {m : ManV} {l : List ObjV} (H : PlH m l) (k : Nat) : 16 ≤ lend l (m.comps.take k) 16 ∧ lend l (m.comps.take k) 16 ≤ 40976 := by
  have h1 := lend_bound H (m.comps.take k) 16 (fun c hc => List.mem_of_mem_take hc)
  have h2 := H.comps
  have h3 : (m.comps.take k).length ≤ m.comps.length := by rw [List.length_take]; omega
  omega
theorem lendS_bound {m : ManV} {l : List ObjV} (H : PlH m l) : ∀ (cs : List CompV) (a : Int), (∀ c ∈ cs, c ∈ m.shrs) → a ≤ lendS cs a ∧ lendS cs a ≤ a + cs.length * 4096
  | [], a, _ => by simp [lendS]
  | c :: r, a, h => by
    have h1 := H.shr c (h c (by simp))
    have h2 := lendS_bound H r (a + c.stack) (fun d hd => h d (by simp [hd]))
    show a ≤ lendS r (a + c.stack) ∧ lendS r (a + c.stack) ≤ _
    rw [List.length_cons]
    omega
theorem lendS_k {m : ManV} {l : List ObjV} (H : PlH m l) (k : Nat) : 16 ≤ lendS (m.shrs.take k) (lend l m.comps 16) ∧ lendS (m.shrs.take k) (lend l m.comps 16) ≤ 73744 := by
  have h1 := lendS_bound H (m.shrs.take k) (lend l m.comps 16) (fun c hc => List.mem_of_mem_take hc)
  have h2 := H.shrs
  have h3 : (m.shrs.take k).length ≤ m.shrs.length := by rw [List.length_take]; omega
  have h4 := lend_k H m.comps.length
  rw [List.take_length] at h4
  omega
theorem lparts_snoc {m : ManV} {l : List ObjV} {k : Nat} {c : CompV} (h : m.comps[k]? = some c) : (lparts l m.comps 16).take (k + 1) = (lparts l m.comps 16).take k ++ [lpart l c (lend l (m.comps.take k) 16)] := by
  obtain ⟨hk, rfl⟩ := List.getElem?_eq_some_iff.1 h
  have e := lparts_at (l := l) m.comps 16 k hk
  obtain ⟨hk', e'⟩ := List.getElem?_eq_some_iff.1 e
  rw [List.take_succ_eq_append_getElem hk', e']
theorem lend_next {m : ManV} {l : List ObjV} {k : Nat} {c : CompV} (h : m.comps[k]? = some c) : lend l (m.comps.take (k + 1)) 16 = lendC l c (lend l (m.comps.take k) 16) := by
  obtain ⟨hk, rfl⟩ := List.getElem?_eq_some_iff.1 h
  exact lend_take m.comps 16 k hk
theorem lshares_snoc {m : ManV} {a : Int} {k : Nat} {c : CompV} (h : m.shrs[k]? = some c) : (lshares m.shrs a).take (k + 1) = (lshares m.shrs a).take k ++ [⟨lendS (m.shrs.take k) a, c.stack⟩] := by
  obtain ⟨hk, rfl⟩ := List.getElem?_eq_some_iff.1 h
  have e := lshares_at m.shrs a k hk
  obtain ⟨hk', e'⟩ := List.getElem?_eq_some_iff.1 e
  rw [List.take_succ_eq_append_getElem hk', e']
theorem lendS_next {m : ManV} {a : Int} {k : Nat} {c : CompV} (h : m.shrs[k]? = some c) : lendS (m.shrs.take (k + 1)) a = lendS (m.shrs.take k) a + c.stack := by
  obtain ⟨hk, rfl⟩ := List.getElem?_eq_some_iff.1 h
  exact lendS_take m.shrs a k hk
theorem lpart_of {m : ManV} {l : List ObjV} (H : PlH m l) {c : CompV} (hc : c ∈ m.comps) (a : Int) {o : ObjV} (ho : objOf l c.name = o) : lpart l c a = ⟨c.name, ⟨a, fillN o.code.length⟩, ⟨a + fillN o.code.length, (o.data.length : Int)⟩, ⟨a + fillN o.code.length + (o.data.length : Int), c.stack⟩, (placesL o).map fun e => a + e⟩ ∧ lendC l c a = a + fillN o.code.length + (o.data.length : Int) + c.stack := by
  obtain ⟨h0, _, _, h3⟩ := H.obj c hc
  rw [ho] at h0 h3
  unfold lpart lendC
  rw [ho]
  dsimp only
  rw [h0, fillN_of h3]
  exact ⟨rfl, rfl⟩
end Go.Proofs.YtbmjnfnekmeegaaGreatDoor

/- What the linker's fill leans on: rows of bytes, of what is asked for, comp by comp; what a copy leaves. -/
namespace Go.Proofs.YtbmjnfnekmeegaaGreatDoor
set_option linter.unusedVariables false
set_option linter.unusedSimpArgs false
open Go Go.RowKit
def zrow (n : Nat) (b : List Nat) : List Nat := b ++ List.replicate (n - b.length) 0
def ovr {α : Type} (l : List α) (a : Nat) (c : List α) : List α := l.take a ++ (c ++ l.drop (a + c.length))
theorem zrow_length {n : Nat} {b : List Nat} (h : b.length ≤ n) : (zrow n b).length = n := by
  unfold zrow
  rw [List.length_append, List.length_replicate]
  omega
theorem zrow_put {n : Nat} {b c : List Nat} {a : Nat} (h1 : b.length ≤ a) (h2 : a + c.length ≤ n) : ovr (zrow n b) a c = zrow n (padL b (a : Int) c) := by
  unfold ovr zrow padL
  rw [List.take_append, List.take_of_length_le h1, List.take_replicate, List.drop_append, List.drop_of_length_le (by omega), List.nil_append, List.drop_replicate]
  rw [Int.toNat_natCast, List.length_append, List.length_append, List.length_replicate]
  rw [show min (a - b.length) (n - b.length) = a - b.length by omega, show n - b.length - (a + c.length - b.length) = n - (b.length + (a - b.length + c.length)) by omega]
  simp only [List.append_assoc]
theorem zrow_all (b : List Nat) : zrow b.length b = b := by
  unfold zrow
  rw [Nat.sub_self]
  simp
theorem lbytes_app {l : List ObjV} : ∀ (cs ds : List CompV) (a : Int) (b : List Nat), lbytes l (cs ++ ds) a b = lbytes l ds (lend l cs a) (lbytes l cs a b)
  | [], _, _, _ => rfl
  | c :: r, ds, a, b => by
    show lbytes l (r ++ ds) _ _ = _
    rw [lbytes_app r ds]
    rfl
theorem lbytes_snoc {m : ManV} {l : List ObjV} {k : Nat} {c : CompV} (h : m.comps[k]? = some c) : lbytes l (m.comps.take (k + 1)) 16 [] = padL (padL (lbytes l (m.comps.take k) 16 []) (lend l (m.comps.take k) 16) (objOf l c.name).code) (lend l (m.comps.take k) 16 + fillN (objOf l c.name).code.length) (objOf l c.name).data := by
  obtain ⟨hk, rfl⟩ := List.getElem?_eq_some_iff.1 h
  rw [List.take_succ_eq_append_getElem hk, lbytes_app]
  rfl
theorem linits_app {m : ManV} {l : List ObjV} {ps : List PartV} {ss : List SpanV} : ∀ (cs ds : List CompV) (i : Nat), linits m l ps ss (cs ++ ds) i = linits m l ps ss cs i ++ linits m l ps ss ds (i + cs.length)
  | [], _, _ => rfl
  | c :: r, ds, i => by
    show _ ++ linits m l ps ss (r ++ ds) (i + 1) = _
    rw [linits_app r ds]
    show _ = (_ ++ linits m l ps ss r (i + 1)) ++ _
    rw [List.append_assoc, List.length_cons, show i + 1 + r.length = i + (r.length + 1) by omega]
theorem linits_snoc {m : ManV} {l : List ObjV} {ps : List PartV} {ss : List SpanV} {k : Nat} {c : CompV} (h : m.comps[k]? = some c) : linits m l ps ss (m.comps.take (k + 1)) 0 = linits m l ps ss (m.comps.take k) 0 ++ (objOf l c.name).rels.map fun x => linit m l ps ss k (objOf l c.name) x := by
  obtain ⟨hk, rfl⟩ := List.getElem?_eq_some_iff.1 h
  rw [List.take_succ_eq_append_getElem hk, linits_app, List.length_take, Nat.zero_add, Nat.min_eq_left (Nat.le_of_lt hk)]
  show _ ++ (_ ++ []) = _
  rw [List.append_nil]
theorem box_setCells {b : Nat} : ∀ (cs : List Value) (w : World) (o : Nat) (vs : Array Value), Box w b vs → o + cs.length ≤ vs.size → ∃ vs', Box (w.setCells b o cs) b vs' ∧ vs'.toList = ovr vs.toList o cs
  | [], w, o, vs, h, _ => ⟨vs, h, by unfold ovr; simp⟩
  | c :: r, w, o, vs, h, hl => by
    rw [List.length_cons] at hl
    obtain ⟨vs', h1, h2⟩ := box_setCells r (w.setCell ⟨b, o, none⟩ c) (o + 1) (vs.setIfInBounds o c) (h.set o c) (by rw [Array.size_setIfInBounds]; omega)
    refine ⟨vs', h1, ?_⟩
    rw [h2]
    unfold ovr
    have ho : o < vs.toList.length := by rw [Array.length_toList]; omega
    rw [Array.toList_setIfInBounds, List.take_succ_eq_append_getElem (by rw [List.length_set]; exact ho), List.getElem_set_self, List.take_set_of_le (Nat.le_refl _), List.drop_set_of_lt (by omega), List.length_cons]
    rw [show o + 1 + r.length = o + (r.length + 1) by omega]
    simp
theorem keepBut_setCells {b : Nat} : ∀ (cs : List Value) (w : World) (o : Nat), KeepBut (fun z => z = b) w (w.setCells b o cs)
  | [], w, o => KeepBut.refl _ _
  | c :: r, w, o => (KeepBut.setAt (S := fun z => z = b) (.inl rfl) (KeepBut.refl _ w) c).trans (keepBut_setCells r _ (o + 1))
end Go.Proofs.YtbmjnfnekmeegaaGreatDoor

/- The linker's initial, of whatever a comp asks for: P1901's. -/
namespace Go.Proofs.YtbmjnfnekmeegaaGreatDoor
set_option linter.unusedVariables false
set_option linter.unusedSimpArgs false
open Go Go.RowKit
def initVal (x : InitV) : Value := .agg #[.int .i64 x.comp, .int .u32 x.at_, .int .i64 x.kind, .bool x.data, .int .i64 x.src, .int .u32 x.addr, .int .u16 x.perm]
theorem exports_sym {o : ObjV} {n : ByteArray} (h : exportsO o n = true) (H : ObjMore o) : (symOf o n).data = false := by
  unfold exportsO at h
  unfold symOf
  cases hf : findS o.syms n with
  | none => rw [hf] at h; cases h
  | some s =>
    rw [hf] at h
    exact (H.symOff (findS_mem hf).1).2 h |>.1
theorem lkinitial_any (b : Nat) (m : ManV) (vc vi vs vg : Value) (l : List ObjV) (vl : Value) (qs : List V4) (z ps ss is st ad bs : Value) (k : Nat) (cc : CompV) (hc : m.comps[k]? = some cc) (r : RelV) (hr : r ∈ (objOf l cc.name).rels) (H : LnkOk m l) (hm : ManMay m) (hf : ObjsFew l) (ha : LkAll m l qs) (hi : ∀ x ∈ m.imps, hasC m.comps x.from_ = true) (ves : List Value) (hnv : ves.length = (lparts l m.comps 16).length)
    (hN1 : N32 (linit m l (lparts l m.comps 16) (lshares m.shrs (lend l m.comps 16)) k (objOf l cc.name) r).at_) (hN2 : N32 (linit m l (lparts l m.comps 16) (lshares m.shrs (lend l m.comps 16)) k (objOf l cc.name) r).addr)
    (w : World) (h : LkAt w b m vc vi vs vg l vl qs z ps ss is st ad bs) (hP : SlAt w ps (lparts l m.comps 16).length (partRows (lparts l m.comps 16) ves)) (hS : SlAt w ss (lshares m.shrs (lend l m.comps 16)).length (spanRows (lshares m.shrs (lend l m.comps 16)))) :
    Calls Tryz.prog 79 #[.pointer (some ⟨b, 0, none⟩), .int .i64 (k : Int), lrelVal r] w fun e w' => e = .returned (initVal (linit m l (lparts l m.comps 16) (lshares m.shrs (lend l m.comps 16)) k (objOf l cc.name) r)) ∧ Keep w w' := by
  obtain ⟨hk, hke⟩ := List.getElem?_eq_some_iff.1 hc
  have hpk : (lparts l m.comps 16)[k]? = some (lpart l cc (lbeg m l k)) := by rw [← hke]; exact lparts_at m.comps 16 k hk
  have hpa : partAt (lparts l m.comps 16) ((k : Nat) : Int) = lpart l cc (lbeg m l k) := by rw [← hke]; exact lnk_partAt hk
  obtain ⟨ko, o, q, HL, hfo⟩ := ha k cc hc
  have hoo : objOf l cc.name = o := objOf_find hfo
  rw [hoo] at hr hN1 hN2 ⊢
  have hCo := H.obj_at hk
  rw [hke] at hCo
  have hmo : ObjMore o := by have := hCo.more; rwa [hoo] at this
  have hrm := hmo.relOff hr
  have hlr := lrel_ok H hk (r := r) (by rw [hke, hoo]; exact hr)
  rw [hke] at hlr
  obtain ⟨kd, ro, rc, rn, rp⟩ := r
  unfold lrelVal
  have hk3 : kd = 1 ∨ kd = 2 ∨ kd = 3 := by have := hrm.kind; dsimp only at this; omega
  rcases hk3 with rfl | rfl | rfl
  · have e : linit m l (lparts l m.comps 16) (lshares m.shrs (lend l m.comps 16)) k o ⟨1, ro, rc, rn, rp⟩ = ⟨k, (lpart l cc (lbeg m l k)).data.at_ + ro, 1, (symOf o rn).data, 0, (if (symOf o rn).data = true then (lpart l cc (lbeg m l k)).data.at_ else (lpart l cc (lbeg m l k)).code.at_) + (symOf o rn).off, rp⟩ := by
      unfold linit
      dsimp only
      rw [if_pos rfl, hpa]
    rw [e] at hN1 hN2 ⊢
    exact lkinit1_any b m vc vi vs vg l vl qs z ps ss is st ad bs k _ ves _ hpk hnv cc ko o q HL ro rp rc rn hf w h hP hN1 hN2
  · have hx : (m.imps.any fun x => decide (x.comp = cc.name ∧ x.from_ = rc ∧ x.name = rn)) = true := by
      unfold lrelE at hlr
      dsimp only at hlr
      rw [if_pos rfl] at hlr
      by_cases c : (m.imps.any fun x => decide (x.comp = cc.name ∧ x.from_ = rc ∧ x.name = rn)) = true
      · exact c
      · rw [if_neg c] at hlr; cases hlr
    obtain ⟨x, hxm, hx⟩ := List.any_eq_true.1 hx
    obtain ⟨hx1, hx2, hx3⟩ := of_decide_eq_true hx
    obtain ⟨j, hj, hje⟩ := List.mem_iff_getElem.1 hxm
    have hlim := H.imp j hj
    rw [limpE_at (List.getElem?_eq_getElem hj), hje] at hlim
    have hex : exportsO (objOf l rc) rn = true := by
      rw [hx2, hx3] at hlim
      by_cases c : exportsO (objOf l rc) rn = true
      · exact c
      · rw [if_neg c] at hlim; cases hlim
    obtain ⟨c2, cc2, g1, g2, g3⟩ := cidx_find (by rw [← hx2]; exact hi x hxm : hasC m.comps rc = true)
    obtain ⟨k2, o2, q2, HL2, hfo2⟩ := ha c2 cc2 g1
    have hoo2 : objOf l rc = o2 := by rw [← g2]; exact objOf_find hfo2
    obtain ⟨hk2, hke2⟩ := List.getElem?_eq_some_iff.1 g1
    have hpk2 : (lparts l m.comps 16)[c2]? = some (lpart l cc2 (lbeg m l c2)) := by rw [← hke2]; exact lparts_at m.comps 16 c2 hk2
    have hpa2 : partAt (lparts l m.comps 16) ((c2 : Nat) : Int) = lpart l cc2 (lbeg m l c2) := by rw [← hke2]; exact lnk_partAt hk2
    have hCo2 := H.obj_at hk2
    rw [hke2] at hCo2
    have hmo2 : ObjMore o2 := by have := hCo2.more; rwa [g2, hoo2] at this
    rw [hoo2] at hex
    have hd := exports_sym hex hmo2
    have e : linit m l (lparts l m.comps 16) (lshares m.shrs (lend l m.comps 16)) k o ⟨2, ro, rc, rn, rp⟩ = ⟨k, (lpart l cc (lbeg m l k)).data.at_ + ro, 2, (symOf o2 rn).data, c2, (if (symOf o2 rn).data = true then (lpart l cc2 (lbeg m l c2)).data.at_ else (lpart l cc2 (lbeg m l c2)).code.at_) + (symOf o2 rn).off, rp⟩ := by
      unfold linit
      dsimp only
      rw [if_neg (by decide), if_pos rfl, hpa, g3, hpa2, hoo2, hd, if_neg (by decide)]
    rw [e] at hN1 hN2 ⊢
    exact lkinit2_any b m vc vi vs vg l vl qs z ps ss is st ad bs k _ ves _ hpk hnv c2 cc2 k2 o2 q2 _ hpk2 HL2 ro rp rc rn g3 hf hm w h hP hN1 hN2
  · unfold lrelE at hlr
    dsimp only at hlr
    rw [if_neg (by decide), if_pos rfl] at hlr
    have hsh : hasC m.shrs rn = true := by
      by_cases c : hasC m.shrs rn = false
      · rw [if_pos c] at hlr; cases hlr
      · simpa using c
    rw [if_neg (by rw [hsh]; decide)] at hlr
    have hgp : grantP m cc.name rn ≠ 0 := by
      intro c
      rw [if_pos c] at hlr
      cases hlr
    obtain ⟨sx, sc, g1, g2, g3⟩ := cidx_find hsh
    obtain ⟨hsl, hse⟩ := List.getElem?_eq_some_iff.1 g1
    have hsp := lshares_at m.shrs (lend l m.comps 16) sx hsl
    rcases idxF_find (grnF cc.name rn) m.grns 0 with ⟨a, _⟩ | ⟨gx, gr, a, d, _, g⟩
    · rw [grantP_F, a] at hgp
      exact absurd rfl hgp
    · rw [Nat.zero_add] at g
      have hgr : grantP m cc.name rn = gr.perm := by rw [grantP_F, a]
      have e : linit m l (lparts l m.comps 16) (lshares m.shrs (lend l m.comps 16)) k o ⟨3, ro, rc, rn, rp⟩ = ⟨k, (lpart l cc (lbeg m l k)).data.at_ + ro, 3, false, sx, lendS (m.shrs.take sx) (lend l m.comps 16), gr.perm⟩ := by
        unfold linit
        dsimp only
        rw [if_neg (by decide), if_neg (by decide), hpa, g3, HL.name, hgr, Int.toNat_natCast, List.getD_eq_getElem?_getD, hsp]
        rfl
      rw [e] at hN1 hN2 ⊢
      exact lkinit3_any b m vc vi vs vg l vl qs z ps ss is st ad bs k _ ves _ hpk hnv cc hc _ _ sx hsp gr gx d ro rp rc rn g3 g hm w h hP hS hN1
end Go.Proofs.YtbmjnfnekmeegaaGreatDoor

/- The linker's place: its state, part by part. -/
namespace Go.Proofs.YtbmjnfnekmeegaaGreatDoor
set_option linter.unusedVariables false
set_option linter.unusedSimpArgs false
open Go Go.RowKit
theorem lkclone_any (s : ByteArray) (hs : s.size ≤ 1000000) (w : World) : Calls Tryz.prog 71 #[.string s] w fun e w' => e = .returned (.string s) ∧ Keep w w' := by
  have C := Lib.hid (Tryz.stringslite_Clone s w (by omega))
  go_enter Tryz.func71, Tryz.ntmps71
  go_wp2_with ((with_reducible refine C.out.mono ?_); rintro e w' ⟨rfl, hk⟩)
  go_ret
  exact ⟨rfl, hk⟩
/-- One continuation for all orders: Q is found where it is used first. -/
theorem bothQ {α β : Type} {Q F : α → β → Prop} {G : Prop} (use : (∀ a b, F a b → Q a b) → G) (proof : ∀ a b, F a b → Q a b) : G := use proof
/-- Parts that are placed, one behind the other; NB = w.heap.size: where the next one begins. -/
structure RS (w : World) (b : Nat) (X : Array Value) (psv : Value) (pl : List PartV) (ves : List Value) (W : World) : Prop where
  but : KeepBut (fun z => z = b) w W
  box : Box W b X
  own : W.ownsRow (w.heap.size + 1) 83 8 psv pl.length (partRows pl ves)
  ent : PEnts (w.heap.size + 1) W psv pl ves
theorem RS.to {w : World} {b : Nat} {X : Array Value} {psv : Value} {pl : List PartV} {ves : List Value} {W W' : World} (h : RS w b X psv pl ves W) (hb : b < w.heap.size) {S : Nat → Prop} (k : KeepBut S W W') (hS : ∀ z, z < W.heap.size → S z → z = w.heap.size) : RS w b X psv pl ves W' :=
  { but := by
      have a : KeepBut (fun z => z = b ∨ w.heap.size ≤ z) w W := h.but.mono (fun _ _ e => .inl e)
      have c : KeepBut (fun z => z = b ∨ w.heap.size ≤ z) W W' := k.mono (fun z hz e => .inr (by have := hS z hz e; omega))
      exact (a.trans c).mono (fun z hz e => e.resolve_right (by omega))
    box := h.box.but k (fun e => by have := hS b h.box.lt e; omega)
    own := owns_but h.own k (fun g hg e => by have := World.ownsRow.lt h.own g hg; have := hS g this.2 e; omega)
    ent := ⟨h.ent.len, fun j p v hp hv => by
      obtain ⟨o, ne⟩ := h.ent.row j p v hp hv
      exact ⟨owns_but o k (fun g hg e => by have := World.ownsRow.lt o g hg; have := hS g this.2 e; omega), ne⟩⟩ }
theorem RS.nil {w : World} {b : Nat} {X : Array Value} {W : World} (k : KeepBut (fun z => z = b) w W) (hB : Box W b X) : RS w b X (.slice none 0 0) [] [] W :=
  ⟨k, hB, ⟨rfl, .inl ⟨rfl, rfl⟩⟩, PEnts.nil _ _ _⟩
theorem RS.keep {w : World} {b : Nat} {X : Array Value} {psv : Value} {pl : List PartV} {ves : List Value} {W W' : World} (h : RS w b X psv pl ves W) (hb : b < w.heap.size) (k : Keep W W') : RS w b X psv pl ves W' :=
  h.to hb (k.but (fun _ => False)) (fun _ _ e => e.elim)
/-- A part more is there, its entries a row of their own; it is not in its row yet. -/
structure RQ (w : World) (b : Nat) (X : Array Value) (psv : Value) (pl : List PartV) (ves : List Value) (p : PartV) (ev : Value) (ny : Int) (W : World) : Prop where
  but : KeepBut (fun z => z = b) w W
  box : Box W b X
  own : W.ownsRow (w.heap.size + 1) 83 8 psv pl.length (partRows pl ves)
  ent : PEnts (w.heap.size + 1) W psv (pl ++ [p]) (ves ++ [ev])
  len : ves.length = pl.length
  nxt : Box W w.heap.size #[.int .u32 ny]
theorem RQ.keep {w : World} {b : Nat} {X : Array Value} {psv : Value} {pl : List PartV} {ves : List Value} {p : PartV} {ev : Value} {ny : Int} {W W' : World} (h : RQ w b X psv pl ves p ev ny W) (k : Keep W W') : RQ w b X psv pl ves p ev ny W' :=
  ⟨h.but.trans (k.but _), h.box.keep k, owns_keep h.own k, h.ent.keep k, h.len, h.nxt.keep k⟩
theorem RQ.push {w : World} {b : Nat} {X : Array Value} {psv v' : Value} {pl : List PartV} {ves : List Value} {p : PartV} {ev : Value} {ny : Int} {W W' : World} (h : RQ w b X psv pl ves p ev ny W) (hb : b < w.heap.size)
    (o : W'.ownsRow (w.heap.size + 1) 83 8 v' (pl.length + 1) (partRows pl ves ++ partRow (p, ev))) (g : W.grownBy W' psv.ownBlock) (b7 : v'.ownBlock = psv.ownBlock ∨ ∃ k, v'.ownBlock = some k ∧ W.heap.size ≤ k) : RS w b X v' (pl ++ [p]) (ves ++ [ev]) W' ∧ Box W' w.heap.size #[.int .u32 ny] := by
  have lo := fun k (e : psv.ownBlock = some k) => (World.ownsRow.lt h.own k e).1
  refine ⟨⟨?_, grown_box g h.box (fun e => by have := lo b e.symm; omega), ?_, h.ent.grow g b7⟩, grown_box g h.nxt (fun e => by have := lo _ e.symm; omega)⟩
  · have k := grown_but g (fun z => psv.ownBlock = some z) (fun _ hg => hg)
    have a : KeepBut (fun z => z = b ∨ w.heap.size ≤ z) w W := h.but.mono (fun _ _ e => .inl e)
    have c : KeepBut (fun z => z = b ∨ w.heap.size ≤ z) W W' := k.mono (fun z _ e => .inr (by have := lo z e; omega))
    exact (a.trans c).mono (fun z hz e => e.resolve_right (by omega))
  · rw [partRows_snoc _ _ _ _ h.len, List.length_append]
    exact o
theorem RS.store {w : World} {b : Nat} {X X' : Array Value} {psv : Value} {pl : List PartV} {ves : List Value} {W : World} (h : RS w b X psv pl ves W) (hb : b < w.heap.size) (i : Nat) (u : Value) (he : X.setIfInBounds i u = X') : RS w b X' psv pl ves (W.setCell ⟨b, i, none⟩ u) := by
  have k : KeepBut (fun z => z = b) W (W.setCell ⟨b, i, none⟩ u) := KeepBut.setAt (S := fun z => z = b) (.inl rfl) (KeepBut.refl _ _) u
  refine ⟨h.but.trans k, by rw [← he]; exact h.box.set i u, owns_but h.own k (fun g hg e => by have := (World.ownsRow.lt h.own g hg).1; omega), ?_⟩
  exact ⟨h.ent.len, fun j p v hp hv => by
    obtain ⟨o, ne⟩ := h.ent.row j p v hp hv
    exact ⟨owns_but o k (fun g hg e => by have := (World.ownsRow.lt o g hg).1; omega), ne⟩⟩
/-- Shares that are placed, behind all parts. -/
structure RT (w W3 : World) (b : Nat) (X : Array Value) (ssv : Value) (n : Nat) (xs : List Value) (ny : Int) (W : World) : Prop where
  but : KeepBut (fun z => z = b ∨ z = w.heap.size) W3 W
  box : Box W b X
  nxt : Box W w.heap.size #[.int .u32 ny]
  own : W.ownsRow W3.heap.size 80 2 ssv n xs
theorem RT.keep {w W3 : World} {b : Nat} {X : Array Value} {ssv : Value} {n : Nat} {xs : List Value} {ny : Int} {W W' : World} (h : RT w W3 b X ssv n xs ny W) (k : Keep W W') : RT w W3 b X ssv n xs ny W' :=
  ⟨h.but.trans (k.but _), h.box.keep k, h.nxt.keep k, owns_keep h.own k⟩
theorem RT.take {w W3 : World} {b : Nat} {X : Array Value} {ssv : Value} {n : Nat} {xs : List Value} {ny ny' : Int} {W W' : World} (h : RT w W3 b X ssv n xs ny W) (hb : b < w.heap.size) (h3 : w.heap.size < W3.heap.size) (k : KeepBut (fun z => z = w.heap.size) W W') (hN : Box W' w.heap.size #[.int .u32 ny']) : RT w W3 b X ssv n xs ny' W' :=
  ⟨h.but.trans (k.mono (fun _ _ e => .inr e)), h.box.but k (by omega), hN, owns_but h.own k (fun g hg => by have := (World.ownsRow.lt h.own g hg).1; omega)⟩
theorem RT.push {w W3 : World} {b : Nat} {X : Array Value} {ssv v' : Value} {n n' : Nat} {xs xs' : List Value} {ny : Int} {W W' : World} (h : RT w W3 b X ssv n xs ny W) (hb : b < w.heap.size) (h3 : w.heap.size < W3.heap.size) (o : W'.ownsRow W3.heap.size 80 2 v' n' xs') (g : W.grownBy W' ssv.ownBlock) : RT w W3 b X v' n' xs' ny W' := by
  have lo := fun k (e : ssv.ownBlock = some k) => (World.ownsRow.lt h.own k e).1
  refine ⟨?_, grown_box g h.box (fun e => by have := lo b e.symm; omega), grown_box g h.nxt (fun e => by have := lo _ e.symm; omega), o⟩
  have k := grown_but g (fun z => ssv.ownBlock = some z) (fun _ hg => hg)
  have a : KeepBut (fun z => (z = b ∨ z = w.heap.size) ∨ W3.heap.size ≤ z) W3 W := h.but.mono (fun _ _ e => .inl e)
  have c : KeepBut (fun z => (z = b ∨ z = w.heap.size) ∨ W3.heap.size ≤ z) W W' := k.mono (fun z _ e => .inr (lo z e))
  exact (a.trans c).mono (fun z hz e => e.resolve_right (by omega))
theorem RT.store {w W3 : World} {b : Nat} {X X' : Array Value} {ssv : Value} {n : Nat} {xs : List Value} {ny : Int} {W : World} (h : RT w W3 b X ssv n xs ny W) (hb : b < w.heap.size) (h3 : w.heap.size < W3.heap.size) (i : Nat) (u : Value) (he : X.setIfInBounds i u = X') : RT w W3 b X' ssv n xs ny (W.setCell ⟨b, i, none⟩ u) := by
  have k : KeepBut (fun z => z = b) W (W.setCell ⟨b, i, none⟩ u) := KeepBut.setAt (S := fun z => z = b) (.inl rfl) (KeepBut.refl _ _) u
  exact ⟨h.but.trans (k.mono (fun _ _ e => .inl e)), by rw [← he]; exact h.box.set i u, h.nxt.but k (by omega), owns_but h.own k (fun g hg e => by have := (World.ownsRow.lt h.own g hg).1; omega)⟩
/-- What place leaves. -/
structure PlD (b : Nat) (m : ManV) (l : List ObjV) (X : Value → Value → Array Value) (w w' : World) (psv ssv : Value) (ves : List Value) : Prop where
  but : KeepBut (fun z => z = b) w w'
  box : Box w' b (X psv ssv)
  parts : RowOf (w.heap.size + 1) w'.heap.size w' psv (lparts l m.comps 16).length (partRows (lparts l m.comps 16) ves)
  nves : ves.length = (lparts l m.comps 16).length
  ents : ∀ (j : Nat) (p : PartV) (v : Value), (lparts l m.comps 16)[j]? = some p → ves[j]? = some v → RowOf (w.heap.size + 1) w'.heap.size w' v p.entries.length (p.entries.map u32V)
  shares : RowOf (w.heap.size + 1) w'.heap.size w' ssv (lshares m.shrs (lend l m.comps 16)).length (spanRows (lshares m.shrs (lend l m.comps 16)))
theorem RowOf.wide {lo hi lo' hi' : Nat} {W : World} {v : Value} {n : Nat} {xs : List Value} (h : RowOf lo hi W v n xs) (h1 : lo' ≤ lo) (h2 : hi ≤ hi') : RowOf lo' hi' W v n xs := by
  obtain ⟨p, cap, a, b, c, d⟩ := h
  refine ⟨p, cap, a, b, c, d.imp id ?_⟩
  rintro ⟨g, e, f, i, j⟩
  exact ⟨g, e, by omega, by omega, j⟩
theorem infoPart : (Tryz.prog.info? 83).map (fun i => (i.zero, i.size, i.bytes)) = some (some (.agg #[.string ⟨#[]⟩, .int .u32 0, .int .u32 0, .int .u32 0, .int .u32 0, .int .u32 0, .int .u32 0, .slice none 0 0]), 8, 64) := by kernel_rfl
theorem infoSpan : (Tryz.prog.info? 80).map (fun i => (i.zero, i.size, i.bytes)) = some (some (.agg #[.int .u32 0, .int .u32 0]), 2, 8) := by kernel_rfl
end Go.Proofs.YtbmjnfnekmeegaaGreatDoor

/- The linker's fill: its state; a copy into a row that is known whole. -/
namespace Go.Proofs.YtbmjnfnekmeegaaGreatDoor
set_option linter.unusedVariables false
set_option linter.unusedSimpArgs false
open Go Go.RowKit
/-! ### How many bytes -/
def lbk (m : ManV) (l : List ObjV) (k : Nat) : List Nat := lbytes l (m.comps.take k) 16 []
theorem lbk_next {m : ManV} {l : List ObjV} (H : PlH m l) {k : Nat} {c : CompV} (h : m.comps[k]? = some c) (hle : ((lbk m l k).length : Int) ≤ lend l (m.comps.take k) 16) : ((lbk m l (k + 1)).length : Int) = lend l (m.comps.take k) 16 + fillN (objOf l c.name).code.length + (objOf l c.name).data.length := by
  have hc : c ∈ m.comps := List.mem_of_getElem? h
  obtain ⟨_, h1, h2, h3⟩ := H.obj c hc
  have a1 : ((objOf l c.name).code.length : Int) ≤ fillN (objOf l c.name).code.length := by unfold fillN; omega
  unfold lbk
  rw [lbytes_snoc h]
  have e1 := pad_len (c := (objOf l c.name).code) (show ((lbytes l (m.comps.take k) 16 []).length : Int) ≤ lend l (m.comps.take k) 16 from hle)
  rw [pad_len (by omega)]
theorem lbk_le {m : ManV} {l : List ObjV} (H : PlH m l) : ∀ k, k ≤ m.comps.length → ((lbk m l k).length : Int) ≤ lend l (m.comps.take k) 16
  | 0, _ => by unfold lbk; simp [lbytes, lend]
  | k + 1, hk => by
    have h := List.getElem?_eq_getElem (show k < m.comps.length from hk)
    have hc : m.comps[k] ∈ m.comps := List.mem_of_getElem? h
    obtain ⟨_, h1, h2, h3⟩ := H.obj _ hc
    rw [lbk_next H h (lbk_le H k (by omega)), lend_next h]
    have h4 := H.comp _ hc
    unfold lendC
    rw [fillN_of h3]
    omega
theorem lbk_step {m : ManV} {l : List ObjV} (H : PlH m l) {k : Nat} (hk : k < m.comps.length) : (lbk m l k).length ≤ (lbk m l (k + 1)).length := by
  have h := List.getElem?_eq_getElem hk
  have a := lbk_le H k (by omega)
  have e := lbk_next H h a
  obtain ⟨_, h1, _, _⟩ := H.obj _ (List.mem_of_getElem? h)
  have := fillN_le h1
  omega
theorem lbk_mono {m : ManV} {l : List ObjV} (H : PlH m l) (k : Nat) : ∀ d, k + d ≤ m.comps.length → (lbk m l k).length ≤ (lbk m l (k + d)).length
  | 0, _ => Nat.le_refl _
  | d + 1, h => Nat.le_trans (lbk_mono H k d (by omega)) (lbk_step H (by omega))
/-- Where the k-th part's bytes end. -/
theorem lbk_in {m : ManV} {l : List ObjV} (H : PlH m l) {k : Nat} {c : CompV} (h : m.comps[k]? = some c) : ((lbk m l k).length : Int) ≤ lend l (m.comps.take k) 16 ∧ lend l (m.comps.take k) 16 + fillN (objOf l c.name).code.length + (objOf l c.name).data.length ≤ (lbytes l m.comps 16 []).length := by
  have hk := (List.getElem?_eq_some_iff.1 h).1
  have a := lbk_le H k (by omega)
  have e := lbk_next H h a
  have g := lbk_mono H (k + 1) (m.comps.length - (k + 1)) (by omega)
  rw [show k + 1 + (m.comps.length - (k + 1)) = m.comps.length by omega] at g
  unfold lbk at g e
  rw [List.take_length] at g
  exact ⟨a, by omega⟩
theorem lbk_last {m : ManV} {l : List ObjV} (H : PlH m l) {k : Nat} {c : CompV} (h : m.comps[k]? = some c) (hk : k + 1 = m.comps.length) : ((lbytes l m.comps 16 []).length : Int) = lend l (m.comps.take k) 16 + fillN (objOf l c.name).code.length + (objOf l c.name).data.length := by
  have e := lbk_next H h (lbk_le H k (by omega))
  unfold lbk at e
  rw [hk, List.take_length] at e
  exact e
/-! ### Parts, made by place -/
theorem rowParts {lo hi : Nat} {w : World} {v : Value} {P : List PartV} {ves : List Value} (h : RowOf lo hi w v P.length (partRows P ves)) (hn : ves.length = P.length) (hne : 0 < P.length) : ∃ pp off cap, v = .slice (some ⟨pp, off, none⟩) P.length cap ∧ lo ≤ pp ∧ pp < hi ∧ pp < w.heap.size ∧ ∀ (c : Nat) (p : PartV), P[c]? = some p → ∃ ve, ves[c]? = some ve ∧
    w.cell? ⟨pp, off + c * 8, none⟩ = some (.string p.name) ∧ w.cell? ⟨pp, off + c * 8 + 1, none⟩ = some (.int .u32 p.code.at_) ∧ w.cell? ⟨pp, off + c * 8 + 2, none⟩ = some (.int .u32 p.code.size) ∧ w.cell? ⟨pp, off + c * 8 + 3, none⟩ = some (.int .u32 p.data.at_) ∧ w.cell? ⟨pp, off + c * 8 + 4, none⟩ = some (.int .u32 p.data.size) ∧
    w.cell? ⟨pp, off + c * 8 + 5, none⟩ = some (.int .u32 p.stack.at_) ∧ w.cell? ⟨pp, off + c * 8 + 6, none⟩ = some (.int .u32 p.stack.size) ∧ w.cell? ⟨pp, off + c * 8 + 7, none⟩ = some ve := by
  obtain ⟨p1, cap, rfl, h2, h3, h4⟩ := h
  obtain ⟨p0, hp0⟩ : ∃ p0, P[0]? = some p0 := ⟨_, List.getElem?_eq_getElem hne⟩
  have S : SlAt w (.slice p1 P.length cap) P.length (partRows P ves) := RowOf.sl ⟨p1, cap, rfl, h2, h3, h4⟩
  obtain ⟨b0, off0, cap0, ve0, e0, _, _⟩ := partsIn hn S hp0
  rcases h4 with h4 | ⟨b1, rfl, g1, g2, g3, _⟩
  · exfalso
    unfold partRows at h4
    have := congrArg List.length h4
    rw [rows_length (k := 8) (fun _ => rfl), List.length_zip, hn, List.length_nil] at this
    omega
  · cases e0
    refine ⟨_, 0, cap, rfl, g1, g2, g3, fun c p hp => ?_⟩
    obtain ⟨b2, off2, cap2, ve, e2, q1, _, q2⟩ := partsIn hn S hp
    cases e2
    exact ⟨ve, q1, q2⟩
/-! ### The state -/
structure FS (w : World) (b : Nat) (X : Array Value) (pb : Nat) (bl : List Nat) (isv : Value) (il : List InitV) (W : World) : Prop where
  but : KeepBut (fun z => z = b) w W
  box : Box W b X
  byt : ∃ vs, Box W pb vs ∧ vs.toList = bl.map byteV
  own : W.ownsRow (pb + 1) 130 7 isv il.length (initRows il)
theorem FS.keep {w : World} {b : Nat} {X : Array Value} {pb : Nat} {bl : List Nat} {isv : Value} {il : List InitV} {W W' : World} (h : FS w b X pb bl isv il W) (k : Keep W W') : FS w b X pb bl isv il W' :=
  ⟨h.but.trans (k.but _), h.box.keep k, by obtain ⟨vs, a, c⟩ := h.byt; exact ⟨vs, a.keep k, c⟩, owns_keep h.own k⟩
theorem FS.put {w : World} {b : Nat} {X : Array Value} {pb : Nat} {bl bl' : List Nat} {isv : Value} {il : List InitV} {W W' : World} (h : FS w b X pb bl isv il W) (hb : b < w.heap.size) (hp : w.heap.size ≤ pb) {vs' : Array Value} (hB : Box W' pb vs') (hv : vs'.toList = bl'.map byteV) (k : KeepBut (fun z => z = pb) W W') : FS w b X pb bl' isv il W' :=
  { but := by
      have a : KeepBut (fun z => z = b ∨ w.heap.size ≤ z) w W := h.but.mono (fun _ _ e => .inl e)
      have c : KeepBut (fun z => z = b ∨ w.heap.size ≤ z) W W' := k.mono (fun z hz e => .inr (by omega))
      exact (a.trans c).mono (fun z hz e => e.resolve_right (by omega))
    box := h.box.but k (by omega)
    byt := ⟨vs', hB, hv⟩
    own := owns_but h.own k (fun g hg e => by have := World.ownsRow.lt h.own g hg; omega) }
theorem FS.push {w : World} {b : Nat} {X : Array Value} {pb : Nat} {bl : List Nat} {isv v' : Value} {il il' : List InitV} {W W' : World} (h : FS w b X pb bl isv il W) (hb : b < w.heap.size) (hp : w.heap.size ≤ pb) (o : W'.ownsRow (pb + 1) 130 7 v' il'.length (initRows il')) (g : W.grownBy W' isv.ownBlock) : FS w b X pb bl v' il' W' := by
  have lo := fun k (e : isv.ownBlock = some k) => (World.ownsRow.lt h.own k e).1
  refine ⟨?_, grown_box g h.box (fun e => by have := lo b e.symm; omega), ?_, o⟩
  · have k := grown_but g (fun z => isv.ownBlock = some z) (fun _ hg => hg)
    have a : KeepBut (fun z => z = b ∨ w.heap.size ≤ z) w W := h.but.mono (fun _ _ e => .inl e)
    have c : KeepBut (fun z => z = b ∨ w.heap.size ≤ z) W W' := k.mono (fun z _ e => .inr (by have := lo z e; omega))
    exact (a.trans c).mono (fun z hz e => e.resolve_right (by omega))
  · obtain ⟨vs, a, c⟩ := h.byt
    exact ⟨vs, grown_box g a (fun e => by have := lo _ e.symm; omega), c⟩
theorem FS.store {w : World} {b : Nat} {X X' : Array Value} {pb : Nat} {bl : List Nat} {isv : Value} {il : List InitV} {W : World} (h : FS w b X pb bl isv il W) (hb : b < w.heap.size) (hp : w.heap.size ≤ pb) (i : Nat) (u : Value) (he : X.setIfInBounds i u = X') : FS w b X' pb bl isv il (W.setCell ⟨b, i, none⟩ u) := by
  have k : KeepBut (fun z => z = b) W (W.setCell ⟨b, i, none⟩ u) := KeepBut.setAt (S := fun z => z = b) (.inl rfl) (KeepBut.refl _ _) u
  refine ⟨h.but.trans k, by rw [← he]; exact h.box.set i u, ?_, owns_but h.own k (fun g hg e => by have := (World.ownsRow.lt h.own g hg).1; omega)⟩
  obtain ⟨vs, a, c⟩ := h.byt
  exact ⟨vs, a.but k (by omega), c⟩
theorem ovr_map {α β : Type} (f : α → β) (l c : List α) (a : Nat) : ovr (l.map f) a (c.map f) = (ovr l a c).map f := by
  unfold ovr
  simp [List.map_append, List.map_take, List.map_drop]
theorem linits_in {m : ManV} {l : List ObjV} {ps : List PartV} {ss : List SpanV} {k : Nat} {c : CompV} (h : m.comps[k]? = some c) {r : RelV} (hr : r ∈ (objOf l c.name).rels) : linit m l ps ss k (objOf l c.name) r ∈ linits m l ps ss m.comps 0 := by
  have e := linits_app (m := m) (l := l) (ps := ps) (ss := ss) (m.comps.take (k + 1)) (m.comps.drop (k + 1)) 0
  rw [List.take_append_drop] at e
  rw [e, linits_snoc h]
  exact List.mem_append_left _ (List.mem_append_right _ (List.mem_map_of_mem hr))
theorem linits_few {m : ManV} {l : List ObjV} {ps : List PartV} {ss : List SpanV} {k : Nat} {c : CompV} (h : m.comps[k]? = some c) : (linits m l ps ss (m.comps.take k) 0).length + (objOf l c.name).rels.length ≤ relsN m l := by
  have e := congrArg List.length (linits_app (m := m) (l := l) (ps := ps) (ss := ss) (m.comps.take (k + 1)) (m.comps.drop (k + 1)) 0)
  rw [List.take_append_drop, List.length_append, linits_snoc h, List.length_append, List.length_map, linits_len m.comps] at e
  unfold relsN
  omega
theorem infoInL : (Tryz.prog.info? 130).map (fun i => (i.zero, i.size, i.bytes)) = some (some (.agg #[.int .i64 0, .int .u32 0, .int .i64 0, .bool false, .int .i64 0, .int .u32 0, .int .u16 0]), 7, 48) := by kernel_rfl
theorem make_bytes (N : Nat) (h : N ≤ 100000) : ∃ MC : Array Value, MC.toList = (zrow N []).map byteV ∧ ∀ W, (Instr.makeSlice 38 (.int .u32 (N : Int)) (.int .u32 (N : Int))).run Tryz.prog W = .ok (.slice (some ⟨W.heap.size, 0, none⟩) N N) (W.alloc (.cells MC 5)) := by
  obtain ⟨i0, hi0, hz0, hz1, hz2⟩ := oinfo_parts infoU8
  refine ⟨madeCells #[.int .u8 0] N, ?_, fun W => ?_⟩
  · rw [toList_madeCells_one]
    unfold zrow byteV
    simp
  · have h := run_makeSlice (P := Tryz.prog) (w := W) 38 5 i0 _ Tryz.underlying38 hi0 hz0 .u32 .u32 (N : Int) (N : Int) (by omega) (Int.le_refl _) (by rw [hz1]; omega) (by rw [hz2]; omega) (by omega)
    rw [Int.toNat_natCast, hz1, Nat.mul_one] at h
    exact h
/-- copy into a row that is known whole: both may be cut, and empty. -/
theorem wpList_copy_box {P : Program} {w : World} {ops : Array Oper} {rest : List Oper} {o : Oper} {a : Act} {Q : Exit → Act → World → Prop} (hgd : o.guard = none) (d s : Operand) (dT sT : TypeId)
    (ho : o.op = .call { callee := .builtin .copy, args := #[d, s], argTypes := #[dT, sT] }) (elem : TypeId) (hu : P.underlying dT = some (.slice elem)) (hsz : (P.info? elem).map (·.size) = some 1)
    (dp sp : Option Addr) (dLen dCap sLen sCap : Nat) (hd : a.eval d = .slice dp dLen dCap) (hs : a.eval s = .slice sp sLen sCap)
    (g off : Nat) (vs : Array Value) (hB : Box w g vs) (cs : List Value) (hn : cs.length = Nat.min sLen dLen)
    (hpos : 0 < cs.length → dp = some ⟨g, off, none⟩ ∧ ∃ ad, sp = some ad ∧ ∀ j v, cs[j]? = some v → w.cell? (ad.add j) = some v)
    (hfit : off + cs.length ≤ vs.size) (h1 : ∀ v ∈ cs, v.oneCell' = true)
    (h : ∀ w' vs', Box w' g vs' → vs'.toList = ovr vs.toList off cs → KeepBut (fun z => z = g) w w' → wpList P ops Q rest (a.put o.dst (goInt cs.length)) w') :
    wpList P ops Q (o :: rest) a w := by
  by_cases h0 : cs.length = 0
  · obtain rfl : cs = [] := List.eq_nil_of_length_eq_zero h0
    refine wpList_copy_nothing hgd d s dT sT ho elem hu hsz dp sp dLen dCap sLen sCap hd hs (by simpa using hn.symm) ?_
    exact h w vs hB (by unfold ovr; simp) (KeepBut.refl _ _)
  · obtain ⟨rfl, ad, rfl, hsrc⟩ := hpos (by omega)
    refine wpList_plain hgd fun K hK => ?_
    have hrun := run_copy_cells (P := P) w dT sT o.type elem g off dLen dCap ad sLen sCap cs hu hsz hn hsrc (fun j hj => by rw [hB.cells, Array.getElem?_eq_getElem (by omega)]; rfl) (fun j hj => hB.thawed _) h1
    unfold Oper.wp
    simp [execOp, ho, resolve, invoke, builtin, hd, hs, hrun, Result.andThen]
    obtain ⟨vs', h2, h3⟩ := box_setCells cs w off vs hB hfit
    exact hK _ _ (h _ vs' h2 h3 (keepBut_setCells cs w off))
end Go.Proofs.YtbmjnfnekmeegaaGreatDoor

/- The linker, plain: what its steps find, one after another; errors.As of nothing. -/
namespace Go.Proofs.YtbmjnfnekmeegaaGreatDoor
set_option linter.unusedVariables false
set_option linter.unusedSimpArgs false
open Go Go.RowKit Go.Extern.Stop Go.Stop Go.Extern
set_option maxRecDepth 100000 in
set_option maxHeartbeats 1000000 in
theorem as_nilL (F : Nat) (w : World) : Calls Tryz.prog 29 #[.nilIface, .iface 102 (.pointer (some ⟨F, 0, none⟩))] w fun e w' => e = .returned (.bool false) ∧ Keep w w' := by
  go_enter Tryz.func29, Tryz.ntmps29
  go_wp2_with fail
  go_ret
  exact ⟨rfl, by first | exact Keep.refl _ | exact (Keep.refl _).alloc _ | exact ((Keep.refl _).alloc _).alloc _⟩
/-- What the k-th step finds. -/
def stepE (m : ManV) (l : List ObjV) (size : Int) : Nat → Option LnkW
  | 0 => manO m
  | 1 => firstO (lobjE m l) l.length 0
  | 2 => firstO (lcompE m l) m.comps.length 0
  | 3 => countO (orels l)
  | 4 => firstO (limpE m l) m.imps.length 0
  | 5 => firstO (lrelsE m l) m.comps.length 0
  | 6 => startO m l
  | 7 => errO sizeT (lwant m l) (roomE size (lwant m l))
  | _ => none
theorem count_none {l : List ObjV} (hf : ObjsFew l) : countO (orels l) = none := by
  unfold countO
  have := orels_le (l := l) (fun o ho => (hf.few o ho).rels)
  have := hf.len
  rw [if_neg (by omega)]
theorem sum_le {α : Type} (f : α → Nat) (n : Nat) : ∀ (l : List α), (∀ x ∈ l, f x ≤ n) → (l.map f).sum ≤ l.length * n
  | [], _ => by simp
  | a :: l, h => by
    have h1 := h a (by simp)
    have h2 := sum_le f n l (fun x hx => h x (by simp [hx]))
    rw [List.map_cons, List.sum_cons, List.length_cons, Nat.add_mul]
    omega
theorem relsN_few {m : ManV} {l : List ObjV} (hf : ObjsFew l) (hc : m.comps.length ≤ 8) : relsN m l ≤ 512 := by
  have h := sum_le (fun c : CompV => (objOf l c.name).rels.length) 40 m.comps (fun c _ => by
    unfold objOf
    cases h : findO l c.name with
    | none => simp [noObj]
    | some o => exact (hf.few o (find_mem h).1).rels)
  unfold relsN
  omega
theorem manO_none {m : ManV} : manO m = none ↔ (manW m).2.2 = 0 := by
  unfold manO
  by_cases h : (manW m).2.2 = 0
  · rw [if_pos h]; exact ⟨fun _ => h, fun _ => rfl⟩
  · rw [if_neg h]; exact ⟨fun e => (by cases e), fun e => absurd e h⟩
/-- The first step that finds something says what Link says. -/
theorem lnkL_step {m : ManV} {l : List ObjV} {size : Int} (hf : ObjsFew l) {k : Nat} {x : LnkW} (hk : stepE m l size k = some x) (hp : ∀ j, j < k → stepE m l size j = none) : lnkL m l size = .error x := by
  have key : k < 7 → lnkE m l = some x := by
    intro h7
    unfold lnkE
    by_cases h0 : (manW m).2.2 = 0
    · rw [if_neg (by simpa using h0)]
      have hmm := manW_more h0
      have hn : ¬ relsN m l > 512 := by have := relsN_few hf hmm.comps.2; omega
      match k, hk, hp, h7 with
      | 0, hk, _, _ => rw [show stepE m l size 0 = manO m from rfl, manO_none.2 h0] at hk; cases hk
      | 1, hk, _, _ => rw [show firstO (lobjE m l) l.length 0 = some x from hk]
      | 2, hk, hp, _ =>
        rw [show firstO (lobjE m l) l.length 0 = none from hp 1 (by omega), show firstO (lcompE m l) m.comps.length 0 = some x from hk]
      | 3, hk, _, _ => rw [show stepE m l size 3 = countO (orels l) from rfl, count_none hf] at hk; cases hk
      | 4, hk, hp, _ =>
        rw [show firstO (lobjE m l) l.length 0 = none from hp 1 (by omega), show firstO (lcompE m l) m.comps.length 0 = none from hp 2 (by omega)]
        dsimp only
        rw [if_neg hn, show firstO (limpE m l) m.imps.length 0 = some x from hk]
      | 5, hk, hp, _ =>
        rw [show firstO (lobjE m l) l.length 0 = none from hp 1 (by omega), show firstO (lcompE m l) m.comps.length 0 = none from hp 2 (by omega)]
        dsimp only
        rw [if_neg hn, show firstO (limpE m l) m.imps.length 0 = none from hp 4 (by omega)]
        dsimp only
        rw [show firstO (lrelsE m l) m.comps.length 0 = some x from hk]
      | 6, hk, hp, _ =>
        rw [show firstO (lobjE m l) l.length 0 = none from hp 1 (by omega), show firstO (lcompE m l) m.comps.length 0 = none from hp 2 (by omega)]
        dsimp only
        rw [if_neg hn, show firstO (limpE m l) m.imps.length 0 = none from hp 4 (by omega)]
        dsimp only
        rw [show firstO (lrelsE m l) m.comps.length 0 = none from hp 5 (by omega)]
        exact hk
    · rw [if_pos h0]
      match k, hk, hp with
      | 0, hk, _ =>
        rw [show stepE m l size 0 = manO m from rfl] at hk
        unfold manO at hk
        rw [if_neg h0] at hk
        exact hk
      | k + 1, _, hp => exact absurd (manO_none.1 (hp 0 (by omega))) h0
  unfold lnkL
  by_cases h7 : k < 7
  · rw [key h7]
  · have e7 : k = 7 := by
      by_cases e : k = 7
      · exact e
      · exfalso
        have : stepE m l size k = none := by
          match k, h7, e with
          | k + 8, _, _ => rfl
        rw [this] at hk; cases hk
    subst e7
    have hn : lnkE m l = none := by
      have h0 := manO_none.1 (hp 0 (by omega))
      unfold lnkE
      rw [if_neg (by simpa using h0)]
      rw [show firstO (lobjE m l) l.length 0 = none from hp 1 (by omega), show firstO (lcompE m l) m.comps.length 0 = none from hp 2 (by omega)]
      dsimp only
      rw [if_neg (by have := relsN_few hf (manW_more h0).comps.2; omega), show firstO (limpE m l) m.imps.length 0 = none from hp 4 (by omega)]
      dsimp only
      rw [show firstO (lrelsE m l) m.comps.length 0 = none from hp 5 (by omega)]
      exact hp 6 (by omega)
    rw [hn]
    dsimp only
    have hk' : errO sizeT (lwant m l) (roomE size (lwant m l)) = some x := hk
    unfold errO roomE at hk'
    by_cases a : size < lwant m l ∨ 65536 < size
    · rw [if_pos a] at hk' ⊢
      rw [if_neg (by decide)] at hk'
      cases hk'
      rfl
    · rw [if_neg a] at hk' ⊢
      by_cases c : size % 16 ≠ 0
      · rw [if_pos c] at hk' ⊢
        rw [if_neg (by decide)] at hk'
        cases hk'
        rfl
      · rw [if_neg c, if_pos rfl] at hk'
        cases hk'
theorem lnkE_steps {m : ManV} {l : List ObjV} {size : Int} (hf : ObjsFew l) (hp : ∀ j, j < 7 → stepE m l size j = none) : lnkE m l = none := by
  have h0 := manO_none.1 (hp 0 (by omega))
  unfold lnkE
  rw [if_neg (by simpa using h0)]
  rw [show firstO (lobjE m l) l.length 0 = none from hp 1 (by omega), show firstO (lcompE m l) m.comps.length 0 = none from hp 2 (by omega)]
  dsimp only
  rw [if_neg (by have := relsN_few hf (manW_more h0).comps.2; omega), show firstO (limpE m l) m.imps.length 0 = none from hp 4 (by omega)]
  dsimp only
  rw [show firstO (lrelsE m l) m.comps.length 0 = none from hp 5 (by omega)]
  exact hp 6 (by omega)
/-- No step finds anything: what Link says. -/
theorem lnkL_all {m : ManV} {l : List ObjV} {size : Int} (hf : ObjsFew l) (hp : ∀ j, j < 8 → stepE m l size j = none) : lnkL m l size = .ok (lnkI m l size) := by
  have h0 := manO_none.1 (hp 0 (by omega))
  have hn : lnkE m l = none := by
    unfold lnkE
    rw [if_neg (by simpa using h0)]
    rw [show firstO (lobjE m l) l.length 0 = none from hp 1 (by omega), show firstO (lcompE m l) m.comps.length 0 = none from hp 2 (by omega)]
    dsimp only
    rw [if_neg (by have := relsN_few hf (manW_more h0).comps.2; omega), show firstO (limpE m l) m.imps.length 0 = none from hp 4 (by omega)]
    dsimp only
    rw [show firstO (lrelsE m l) m.comps.length 0 = none from hp 5 (by omega)]
    exact hp 6 (by omega)
  unfold lnkL
  rw [hn]
  dsimp only
  have h7 : errO sizeT (lwant m l) (roomE size (lwant m l)) = none := hp 7 (by omega)
  unfold errO roomE at h7
  by_cases a : size < lwant m l ∨ 65536 < size
  · rw [if_pos a, if_neg (by decide)] at h7; cases h7
  · rw [if_neg a] at h7 ⊢
    by_cases c : size % 16 ≠ 0
    · rw [if_pos c, if_neg (by decide)] at h7; cases h7
    · rw [if_neg c]
/-- Where the comps' objects lie, once the comps' step found nothing. -/
theorem lkAll_of {m : ManV} {l : List ObjV} {qs : List V4} (hn : qs.length = l.length) (h : firstO (lcompE m l) m.comps.length 0 = none) : LkAll m l qs := by
  intro c cc hc
  have hcl := (List.getElem?_eq_some_iff.1 hc).1
  have e : lcompE m l c = none := firstO_zero h c hcl
  unfold lcompE at e
  rw [hc] at e
  dsimp only at e
  cases hf : findO l cc.name with
  | none => rw [hf] at e; cases e
  | some o =>
    obtain ⟨k, q, H⟩ := lk_has hn hc hf
    exact ⟨k, o, q, H, rfl⟩
/-- What place leans on. -/
theorem plH_of {m : ManV} {l : List ObjV} (hm : ManMay m) (hf : ObjsFew l) (H : LnkOk m l) : PlH m l := by
  have M := manW_more H.man
  have S := H.sized (hf.lnk hm)
  refine ⟨M.comps.2, M.shrs, fun c hc => ?_, fun c hc => ?_, fun c hc => ?_, fun c hc => (H.obj_of hc).places, fun c hc e he => ?_⟩
  · have := S.1 c hc; omega
  · have := S.2 c hc; omega
  · have C := H.obj_of hc
    have F := hf.few _ C.mem
    refine ⟨C.name, ?_, ?_, ?_⟩
    · have := F.code; omega
    · have := F.data; omega
    · exact C.more.data.2
  · have C := H.obj_of hc
    have := (places_rises C.more (hf.num _ C.mem).syms).mem he
    have := C.more.code
    omega
theorem lkGrants {m : ManV} (h : (manW m).2.2 = 0) : ∀ g ∈ m.grns, g.perm ≠ 0 := by
  intro g hg
  obtain ⟨k, hk, rfl⟩ := List.mem_iff_getElem.1 hg
  have e := (manW_more h).grn k hk
  unfold grnE at e
  rw [List.getElem?_eq_getElem hk] at e
  dsimp only at e
  intro hp
  split at e
  · cases e
  · rw [if_pos (.inl hp)] at e; cases e
theorem lkFroms {m : ManV} (h : (manW m).2.2 = 0) : ∀ x ∈ m.imps, hasC m.comps x.from_ = true := by
  intro x hx
  obtain ⟨k, hk, rfl⟩ := List.mem_iff_getElem.1 hx
  have e := (manW_more h).imp k hk
  unfold impE at e
  rw [List.getElem?_eq_getElem hk] at e
  dsimp only at e
  split at e
  · cases e
  · rename_i c
    simp only [Bool.or_eq_true, Bool.not_eq_true', not_or] at c
    simpa using c.1.2
end Go.Proofs.YtbmjnfnekmeegaaGreatDoor
