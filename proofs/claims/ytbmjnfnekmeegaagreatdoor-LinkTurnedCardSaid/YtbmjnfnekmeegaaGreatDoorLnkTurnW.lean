/- The walk of LinkTurned; by gen/lnk3.py. -/
import Derived.Test.YtbmjnfnekmeegaaGreatDoorGLnkK
import Derived.Test.YtbmjnfnekmeegaaGreatDoorGLnkF
import Derived.Test.YtbmjnfnekmeegaaGreatDoorImgSameC
namespace Go.Proofs.YtbmjnfnekmeegaaGreatDoor
set_option linter.unusedVariables false
set_option linter.unusedSimpArgs false
open Go Go.RowKit
theorem infoObject : (Tryz.prog.info? 76).map (fun i => (i.zero, i.size, i.bytes)) = some (some (.agg #[.string ⟨#[]⟩, .slice none 0 0, .slice none 0 0, .slice none 0 0, .slice none 0 0]), 5, 112) := by kernel_rfl
theorem lerr_keep {m : ManV} {l t : List ObjV} (hp : l.Perm t) (size : Int) : (∃ i, lnkL m l size = .ok i ∧ lnkL m t size = .ok i) ∨ ((∃ x, lnkL m l size = .error x) ∧ ∃ y, lnkL m t size = .error y) := by
  cases h1 : lnkL m l size with
  | ok i => exact .inl ⟨i, rfl, lnk_turn hp size h1⟩
  | error x =>
    refine .inr ⟨⟨x, rfl⟩, ?_⟩
    cases h2 : lnkL m t size with
    | error y => exact ⟨y, rfl⟩
    | ok i => rw [lnk_turn hp.symm size h2] at h1; cases h1
/-- Objects, a piece of them ahead of the others. -/
theorem objsFew_perm {l t : List ObjV} (hp : l.Perm t) (h : ObjsFew l) : ObjsFew t := ⟨by rw [← hp.length_eq]; exact h.len, fun o ho => h.few o (hp.mem_iff.2 ho), fun o ho => h.num o (hp.mem_iff.2 ho)⟩
theorem flat_drop {α : Type} {f : α → List Value} {m : Nat} (hf : ∀ x, (f x).length = m) (l : List α) (k : Nat) (hk : k ≤ l.length) : (l.drop k).flatMap f = (l.flatMap f).drop (k * m) := by
  have h := congrArg (fun z => (z.flatMap f).drop (k * m)) (List.take_append_drop k l)
  simp only [List.flatMap_append] at h
  rw [← h, List.drop_left' (by rw [rows_length hf, List.length_take, Nat.min_eq_left hk])]
theorem flat_take {α : Type} {f : α → List Value} {m : Nat} (hf : ∀ x, (f x).length = m) (l : List α) (k : Nat) (hk : k ≤ l.length) : (l.take k).flatMap f = (l.flatMap f).take (k * m) := by
  have h := congrArg (fun z => (z.flatMap f).take (k * m)) (List.take_append_drop k l)
  simp only [List.flatMap_append] at h
  rw [← h, List.take_left' (by rw [rows_length hf, List.length_take, Nat.min_eq_left hk])]
theorem lowns_sl {w : World} {base : Nat} {e : TypeId} {size : Nat} {v : Value} {n : Nat} {xs : List Value} (h : w.ownsRow base e size v n xs) (hm : n ≤ maxLen) : SlAt w v n xs := by
  obtain ⟨p, cap, e, h1, h2, h3⟩ := owns_cells h hm
  refine ⟨p, cap, e, h1, h2, ?_⟩
  rcases h3 with h3 | ⟨b, h3, _, h4, h5⟩
  · exact .inl h3
  · exact .inr ⟨b, 0, h3, h4, h5⟩
def imgT4 (i : ImgV) : WrV :=
  if i.start < 0 ∨ (i.parts.length : Int) ≤ i.start then (startT, i.start, 6) else
  if (match i.parts[i.start.toNat]? with
    | none => false
    | some p => amongI p.entries i.addr) = false then (startT, i.start, 12) else okW
def imgT3 (i : ImgV) : WrV := match firstE (initE i) i.inits.length 0 with
  | some (k, e) => (initT, k, e)
  | none => imgT4 i
def imgT2 (i : ImgV) : WrV := match firstE (entE i) (entsI i).length 0 with
  | some (k, e) => (entryT, k, e)
  | none => imgT3 i
def imgT1 (i : ImgV) : WrV := match firstE (partE i) i.parts.length 0 with
  | some (k, e) => (partT, k, e)
  | none => imgT2 i
def imgT0 (i : ImgV) : WrV := match firstE (spanE i) (spansI i).length 0 with
  | some (k, e) => (spanT, k, e)
  | none => imgT1 i
theorem objs_one {w : World} {v : Value} {l : List ObjV} {qs : List V4} (h : ObjsAt w v l qs) : ∀ x ∈ l.zip qs, ∀ u ∈ objRow x, u.oneCell' = true := by
  intro x hx u hu
  obtain ⟨k, hk, rfl⟩ := List.mem_iff_getElem.1 hx
  rw [List.length_zip] at hk
  have ho : l[k]? = some (l.zip qs)[k].1 := by rw [List.getElem_zip, List.getElem?_eq_getElem (by omega)]
  have hq : qs[k]? = some (l.zip qs)[k].2 := by rw [List.getElem_zip, List.getElem?_eq_getElem (by omega)]
  have A := h.at_ k _ _ ho hq
  generalize (l.zip qs)[k] = y at A hu
  obtain ⟨p1, c1, e1, _⟩ := A.code
  obtain ⟨p2, c2, e2, _⟩ := A.data
  obtain ⟨p3, c3, e3, _⟩ := A.syms
  obtain ⟨p4, c4, e4, _⟩ := A.rels
  simp only [objRow, e1, e2, e3, e4, List.mem_cons, List.not_mem_nil, or_false] at hu
  rcases hu with rfl | rfl | rfl | rfl | rfl <;> rfl
set_option maxHeartbeats 6000000 in
set_option maxRecDepth 100000 in
theorem linkTurned_any {Pre : World → Prop} (hP : OPreOk Pre) (hL : PLink Pre) (hS : PImgSame) (m : ManV) (vc vi vs vg : Value) (l : List ObjV) (vl : Value) (qs : List V4) (size : Int) (hz : N32 size) (c : Nat) (hc : c < 256) (w : World) (hm : ManAt w m vc vi vs vg) (hmi : ManIn m) (ho : ObjsAt w vl l qs) (hoi : ObjsIn l) (hp : Pre w) :
    Calls Tryz.prog 4 #[manVal m vc vi vs vg, vl, .int .u32 size, .int .u8 (c : Int)] w fun e w' => e = .returned (.bool true) ∧ Keep w w' := by
  obtain ⟨i0, hi0, hz0, hz1, hz2⟩ := oinfo_parts infoObject
  have HP := Lib.hid hp
  have HH := Lib.hid hP
  have HL := Lib.hid hL
  have HS := Lib.hid hS
  have HM := Lib.hid hm
  have HMI := Lib.hid hmi
  have HO := Lib.hid ho
  have HOI := Lib.hid hoi
  have HZ := Lib.hid hz
  obtain ⟨lp, lcap, rfl, hlc, hlm, hlx⟩ := ho.row
  have HLX := Lib.hid hlx
  have MV : Hid (∀ a b c d, manVal m a b c d = .agg #[a, b, c, d, .string m.start.comp, .string m.start.from_, .string m.start.name]) := Lib.hid (fun a b c d => rfl)
  clear hP hp hL hS hm hmi ho hoi hz hlx
  rw [MV.out]
  obtain ⟨W0, hW0⟩ : ∃ W0, W0 = w.alloc (.cells #[vc, vi, vs, vg, .string m.start.comp, .string m.start.from_, .string m.start.name] 29) := ⟨_, rfl⟩
  have B0 : Hid (Box W0 w.heap.size #[vc, vi, vs, vg, .string m.start.comp, .string m.start.from_, .string m.start.name]) := Lib.hid (by rw [hW0]; exact Box.new _ _ _)
  have K0 : Hid (Keep w W0) := Lib.hid (by rw [hW0]; exact (Keep.refl _).alloc _)
  have C0 := Lib.hid (lknown_any HH.out HL.out W0 (HH.out.keep HP.out K0.out))
  go_enter Tryz.func4, Tryz.ntmps4
  go_wp2_with fail
  rw [← hW0]
  clear hW0
  refine C0.out.mono ?_
  rintro e w1 ⟨rfl, hk1⟩
  have K1 := Lib.hid (K0.out.trans hk1)
  have B1 := Lib.hid (B0.out.keep hk1)
  have c1 := B1.out.cells
  have CM := mfew_any m vc vi vs vg w1 (HM.out.keep K1.out) HMI.out.comps HMI.out.imps HMI.out.shrs HMI.out.grns
  rw [MV.out] at CM
  have CM := Lib.hid CM
  clear hk1 C0
  go_wp2_with fail
  refine CM.out.mono ?_
  rintro e w2 ⟨b2, rfl, hf2, hk2⟩
  have K2 := Lib.hid (K1.out.trans hk2)
  have B2 := Lib.hid (B1.out.keep hk2)
  have HF2 := Lib.hid hf2
  clear hk2 CM hf2 c1
  rcases Bool.eq_false_or_eq_true b2 with rfl | rfl
  case inr =>
    go_wp2_with fail
    go_ret
    exact ⟨rfl, K2.out⟩
  have MF := Lib.hid (HF2.out rfl)
  have MM := Lib.hid (MF.out.may HMI.out.compN HMI.out.shrN HMI.out.grnN)
  have CL := Lib.hid (lfew_any l _ qs w2 (HO.out.keep K2.out) HOI.out)
  go_wp2_with fail
  refine CL.out.mono ?_
  rintro e w3 ⟨b3, rfl, hf3, hk3⟩
  have K3 := Lib.hid (K2.out.trans hk3)
  have B3 := Lib.hid (B2.out.keep hk3)
  have HF3 := Lib.hid hf3
  clear hk3 CL hf3
  rcases Bool.eq_false_or_eq_true b3 with rfl | rfl
  case inr =>
    go_wp2_with fail
    go_ret
    exact ⟨rfl, K3.out⟩
  have OF := Lib.hid (HF3.out rfl)
  obtain ⟨n, hn⟩ : ∃ n, n = l.length := ⟨_, rfl⟩
  rw [← hn] at hlc
  rw [← hn]
  have HN := Lib.hid hn
  have n10 : n ≤ 10 := by rw [hn]; exact OF.out.len
  clear hn
  rcases Nat.eq_zero_or_pos n with hn0 | hpos
  · have e0 : ((n : Int) == 0) = true := by rw [hn0]; rfl
    clear hn0
    go_wp2_with fail
    go_ret
    exact ⟨rfl, K3.out⟩
  have e0 : ((n : Int) == 0) = false := beq_eq_false_iff_ne.2 (by omega)
  have np : (0 : Int) < (n : Int) := by omega
  obtain ⟨k, hk⟩ : ∃ k, c % n = k := ⟨_, rfl⟩
  have klt : k < n := by rw [← hk]; exact Nat.mod_lt _ hpos
  have hki : (c : Int) % (n : Int) = (k : Int) := by rw [← hk]; simp
  have hc0 : (0 : Int) ≤ (c : Int) := Int.natCast_nonneg _
  have hk0 : (k : Int) ≤ (n : Int) := by omega
  have hk1 : (k : Int) < (n : Int) := by omega
  clear hk
  rcases HLX.out with hnil | ⟨lb, lo, rfl, hlb, hcells⟩
  · exfalso
    have := congrArg List.length hnil
    rw [HN.out] at hpos
    simp only [List.length_nil] at this
    rw [rows_length objRow_length, List.length_zip, HO.out.nqs, Nat.min_self] at this
    omega
  have HCX := Lib.hid hcells
  clear hcells
  go_wp2_with fail
  have q1 : ¬ lcap = k := by omega
  have q2 : k ≤ lcap := by omega
  obtain ⟨QS, hQS⟩ : ∃ QS, QS = l.zip qs := ⟨_, rfl⟩
  have hQL : QS.length = n := by rw [hQS, List.length_zip, HO.out.nqs, Nat.min_self]; exact HN.out.symm
  rw [← hQS] at HCX
  have HQS := Lib.hid hQS
  have HQL := Lib.hid hQL
  clear hQS hQL
  have ROW : Hid (∀ W, Keep w W → ∀ (i : Nat) (u : Value), (QS.flatMap objRow)[i]? = some u → W.cell? ⟨lb, lo + i, none⟩ = some u) := Lib.hid (fun W hW i u hu => hW.cellOf (HCX.out i u hu))
  have ONE := Lib.hid (by rw [HQS.out]; exact objs_one HO.out : ∀ x ∈ QS, ∀ u ∈ objRow x, u.oneCell' = true)
  obtain ⟨o0, ho0⟩ : ∃ o0, l[0]? = some o0 := ⟨_, List.getElem?_eq_getElem (by rw [← HN.out]; exact hpos)⟩
  obtain ⟨q0, hq0⟩ : ∃ q0, qs[0]? = some q0 := ⟨_, List.getElem?_eq_getElem (by rw [HO.out.nqs, ← HN.out]; exact hpos)⟩
  have HQ0 := Lib.hid (HO.out.at_ 0 o0 q0 ho0 hq0)
  have HO0 := Lib.hid (List.mem_of_getElem? ho0)
  have hz0' : QS[0]? = some (o0, q0) := by rw [HQS.out]; exact List.getElem?_zip_eq_some.2 ⟨ho0, hq0⟩
  have rr := fun (j : Nat) (u : Value) (hj : j < 5) (hu : (objRow (o0, q0))[j]? = some u) W hW => ROW.out W hW (0 * 5 + j) u (by rw [rows_row objRow_length QS 0 j hj _ hz0']; exact hu)
  have R0 : Hid (∀ W, Keep w W → W.cell? ⟨lb, lo, none⟩ = some (.string o0.name)) := Lib.hid (fun W hW => by have := rr 0 _ (by decide) rfl W hW; simpa using this)
  have R1 : Hid (∀ W, Keep w W → W.cell? ⟨lb, lo + 1, none⟩ = some q0.1) := Lib.hid (fun W hW => by have := rr 1 _ (by decide) rfl W hW; simpa using this)
  have R2 : Hid (∀ W, Keep w W → W.cell? ⟨lb, lo + 2, none⟩ = some q0.2.1) := Lib.hid (fun W hW => by have := rr 2 _ (by decide) rfl W hW; simpa using this)
  have R3 : Hid (∀ W, Keep w W → W.cell? ⟨lb, lo + 3, none⟩ = some q0.2.2.1) := Lib.hid (fun W hW => by have := rr 3 _ (by decide) rfl W hW; simpa using this)
  have R4 : Hid (∀ W, Keep w W → W.cell? ⟨lb, lo + 4, none⟩ = some q0.2.2.2) := Lib.hid (fun W hW => by have := rr 4 _ (by decide) rfl W hW; simpa using this)
  clear rr hz0' ho0 hq0
  refine Rel.regionO (KeepBut (fun z => w3.heap.size ≤ z)) (butWay _) [0, 4, 8] [1, 2, 3, 5, 6, 7, 0, 4, 8, 9] (by kernel_rfl) (by kernel_rfl) (Keep.refl _) ?_
  repeat (apply Rel.ordK_step (by rfl) (by rfl) (by rfl)
          · intro W' hW'
            go_simp
            exact ⟨rfl, Keep.refl _⟩
          go_simp)
  apply Rel.ordK_loose (by rfl) (by rfl) (by rfl)
  intro W1 hW1
  go_simp
  apply Rel.gives_value
  refine ⟨((Keep.refl _).alloc _).but _, ?_⟩
  go_simp
  apply Rel.ordK_loose (by rfl) (by rfl) (by rfl)
  intro W2 hW2
  have kk2 : Keep w3 W2 := (hW1.alloc _).trans hW2
  refine gives_append W2 (.tmp 35) (.tmp 38) 30 rfl w3.heap.size 76 i0 _ 5 112 Tryz.underlying30 hi0 hz0 hz1 hz2 rfl (by decide) (.slice (some ⟨W1.heap.size, 0, none⟩) 0 0) 0 [] rfl ?own ⟨lb, lo + k * 5, none⟩ (n - k) (lcap - k) ((QS.drop k).flatMap objRow) rfl ?len ?cells ?one ?h63 ?hb ?hbase ?_
  case own => exact owns_keep (own_none _ _ _ _ _ rfl hW1.size) hW2
  case len => rw [rows_length objRow_length, List.length_drop, HQL.out]
  case cells =>
    intro j u hj
    rw [Addr.add_lit, Nat.add_assoc]
    refine ROW.out _ (K3.out.trans kk2) (k * 5 + j) u ?_
    rw [← hj, flat_drop objRow_length QS k (by rw [HQL.out]; omega), List.getElem?_drop]
  case one =>
    intro u hu
    obtain ⟨x, hx, hu⟩ := List.mem_flatMap.1 hu
    exact ONE.out x (List.mem_of_mem_drop hx) u hu
  case h63 => unfold maxLen; omega
  case hb => omega
  case hbase => exact kk2.size
  intro v4 W4 hown4 hgr4
  have KB4 := grown_but hgr4 (fun z => w3.heap.size ≤ z) (fun g hg => by
    simp only [Value.ownBlock, Option.some.injEq] at hg
    have := hW1.size
    show w3.heap.size ≤ g
    omega)
  refine ⟨KB4, ?_⟩
  have K34 : Keep w3 W4 := ((kk2.but _).trans KB4).keep (fun z hz => hz)
  have OW4 := Lib.hid hown4
  clear hgr4 KB4 hown4 kk2 hW1 hW2
  go_simp
  apply Rel.ordK_loose (by rfl) (by rfl) (by rfl)
  intro W5 hW5
  have kk5 : Keep w3 W5 := K34.trans hW5
  refine gives_append W5 (.tmp 39) (.tmp 42) 30 rfl w3.heap.size 76 i0 _ 5 112 Tryz.underlying30 hi0 hz0 hz1 hz2 rfl (by decide) v4 (0 + (n - k)) ([] ++ (QS.drop k).flatMap objRow) rfl (owns_keep OW4.out hW5) ⟨lb, lo, none⟩ k lcap ((QS.take k).flatMap objRow) rfl ?len ?cells ?one ?h63 ?hb ?hbase ?_
  case len => rw [rows_length objRow_length, List.length_take, HQL.out, Nat.min_eq_left (by omega)]
  case cells =>
    intro j u hj
    rw [Addr.add_lit]
    refine ROW.out _ (K3.out.trans kk5) j u ?_
    rw [flat_take objRow_length QS k (by rw [HQL.out]; omega), List.getElem?_take] at hj
    split at hj
    · exact hj
    · cases hj
  case one =>
    intro u hu
    obtain ⟨x, hx, hu⟩ := List.mem_flatMap.1 hu
    exact ONE.out x (List.mem_of_mem_take hx) u hu
  case h63 => unfold maxLen; omega
  case hb => omega
  case hbase => exact kk5.size
  intro v6 W6 hown6 hgr6
  have KB6 := grown_but hgr6 (fun z => w3.heap.size ≤ z) (fun g hg => (World.ownsRow.lt OW4.out g hg).1)
  refine ⟨KB6, ?_⟩
  have K36 : Keep w3 W6 := ((kk5.but _).trans KB6).keep (fun z hz => hz)
  obtain ⟨T, hT⟩ : ∃ T, T = l.drop k ++ l.take k := ⟨_, rfl⟩
  obtain ⟨tq, htq⟩ : ∃ tq, tq = qs.drop k ++ qs.take k := ⟨_, rfl⟩
  have HTQ : Hid (T.zip tq = QS.drop k ++ QS.take k) := Lib.hid (by
    rw [hT, htq, HQS.out, List.zip_append (by rw [List.length_drop, List.length_drop, HO.out.nqs])]
    simp only [List.zip, List.drop_zipWith, List.take_zipWith])
  have HTL : Hid (T.length = n) := Lib.hid (by rw [hT, List.length_append, List.length_drop, List.length_take, ← HN.out]; omega)
  have HOT : Hid (ObjsAt W6 v6 T tq) := Lib.hid (by
    refine ⟨?_, ?_, fun j o q ho hq => ?_⟩
    · have := lowns_sl hown6 (by unfold maxLen; omega)
      rw [List.nil_append, ← List.flatMap_append, ← HTQ.out, Nat.zero_add, Nat.sub_add_cancel (by omega), ← HTL.out] at this
      exact this
    · rw [hT, htq, List.length_append, List.length_append, List.length_drop, List.length_drop, List.length_take, List.length_take, HO.out.nqs]
    · have ho' : (o, q) ∈ l.zip qs := by
        have h1 : (T.zip tq)[j]? = some (o, q) := List.getElem?_zip_eq_some.2 ⟨ho, hq⟩
        have h2 := List.mem_of_getElem? h1
        rw [HTQ.out, HQS.out] at h2
        rcases List.mem_append.1 h2 with h2 | h2
        · exact List.mem_of_mem_drop h2
        · exact List.mem_of_mem_take h2
      obtain ⟨i, hi, he⟩ := List.mem_iff_getElem.1 ho'
      have h3 := List.getElem?_zip_eq_some.1 (by rw [List.getElem?_eq_getElem hi, he] : (l.zip qs)[i]? = some (o, q))
      exact (HO.out.at_ i o q h3.1 h3.2).keep (K3.out.trans K36))
  have PM : Hid (l.Perm T) := Lib.hid (by
    rw [hT]
    have := (List.perm_append_comm (l₁ := l.take k) (l₂ := l.drop k))
    rwa [List.take_append_drop] at this)
  have K6 := Lib.hid (K3.out.trans K36)
  have B6 := Lib.hid (B3.out.keep K36)
  clear hgr6 KB6 hown6 kk5 hT htq K34 hW5 K36
  go_simp
  apply Rel.ordK_step (by rfl) (by rfl) (by rfl)
  · intro W' hW'
    go_simp
    exact ⟨rfl, Keep.refl _⟩
  go_simp
  apply Rel.ordK_end
  intro W7 hW7
  have K7 := Lib.hid (K6.out.trans hW7)
  have B7 := Lib.hid (B6.out.keep hW7)
  have HO7 := Lib.hid (HOT.out.keep hW7)
  have TF := Lib.hid (objsFew_perm PM.out OF.out)
  have HOL7 := Lib.hid (HO.out.keep K7.out)
  have c7 := B7.out.cells
  have C1 := HL.out m vc vi vs vg l _ qs size W7 (HM.out.keep K7.out) MM.out HOL7.out OF.out HZ.out (HH.out.keep HP.out K7.out)
  rw [MV.out] at C1
  rw [← HN.out] at HOL7
  have C1 := Lib.hid C1
  obtain ⟨tp, tcap, hv6, _⟩ := HO7.out.row
  rw [HTL.out] at hv6
  subst hv6
  have HPN := Lib.hid hpos
  clear hW7 ONE hpos
  go_wp2_with fail
  have C1' := C1.out
  rw [← HN.out] at C1'
  refine C1'.mono ?_
  clear C1 C1'
  rintro e w8 ⟨hk8, ap, ah, ai, ab, aes, u8, rfl, ha8, hu8⟩
  have VV : lnkV m T size = lnkV m l size ∧ ((lnkW m l size = none ∧ lnkW m T size = none) ∨ (∃ x y, lnkW m l size = some x ∧ lnkW m T size = some y)) := by
    rcases lerr_keep PM.out size with ⟨i, h1, h2⟩ | ⟨⟨x, h1⟩, y, h2⟩
    · exact ⟨by rw [(lnk_ok h1).1, (lnk_ok h2).1], .inl ⟨(lnk_ok h1).2, (lnk_ok h2).2⟩⟩
    · exact ⟨by rw [(lnk_err h1).1, (lnk_err h2).1], .inr ⟨x, y, (lnk_err h1).2, (lnk_err h2).2⟩⟩
  obtain ⟨VE, VW⟩ := VV
  have NM := Lib.hid (lnkV_num OF.out MM.out size)
  have MI := Lib.hid (lnkV_mid OF.out MM.out size)
  obtain ⟨I, hI⟩ : ∃ I, I = lnkV m l size := ⟨_, rfl⟩
  rw [← hI] at ha8 NM MI VE ⊢
  have HVE := Lib.hid VE
  have HVW := Lib.hid VW
  have HU8 := Lib.hid hu8
  have HA8 := Lib.hid ha8
  have K8 := Lib.hid (K7.out.trans hk8)
  have B8 := Lib.hid (B7.out.keep hk8)
  have HO8 := Lib.hid (HO7.out.keep hk8)
  obtain ⟨a1, d1, rfl, _⟩ := ha8.parts
  obtain ⟨a2, d2, rfl, _⟩ := ha8.shares
  obtain ⟨a3, d3, rfl, _⟩ := ha8.inits
  obtain ⟨a4, d4, rfl, _⟩ := ha8.bytes
  have IV : Hid (∀ a b c d, imgVal I a b c d = .agg #[.int .u32 I.size, a, b, c, .int .i64 I.start, .int .u32 I.addr, d]) := Lib.hid (fun a b c d => rfl)
  rw [IV.out]
  obtain ⟨W8, hW8⟩ : ∃ W8, W8 = w8.alloc (.cells #[.int .u32 I.size, .slice a1 I.parts.length d1, .slice a2 I.shares.length d2, .slice a3 I.inits.length d3, .int .i64 I.start, .int .u32 I.addr, .slice a4 I.bytes.length d4] 40) := ⟨_, rfl⟩
  have KA8 : Hid (Keep w8 W8) := Lib.hid (by rw [hW8]; exact (Keep.refl _).alloc _)
  have BA : Hid (Box W8 w8.heap.size #[.int .u32 I.size, .slice a1 I.parts.length d1, .slice a2 I.shares.length d2, .slice a3 I.inits.length d3, .int .i64 I.start, .int .u32 I.addr, .slice a4 I.bytes.length d4]) := Lib.hid (by rw [hW8]; exact Box.new _ _ _)
  have KW8 := Lib.hid (K8.out.trans KA8.out)
  have C2 := HL.out m vc vi vs vg T _ tq size W8 (HM.out.keep KW8.out) MM.out (HO8.out.keep KA8.out) TF.out HZ.out (HH.out.keep HP.out KW8.out)
  rw [MV.out, HVE.out] at C2
  have C2 := Lib.hid C2
  have cb8 := fun o => (B8.out.alloc o).cells
  have tT := HTL.out
  obtain ⟨gA, hgA⟩ : ∃ gA, gA = w8.heap.size := ⟨_, rfl⟩
  rw [← hgA] at BA
  clear hk8 hu8 ha8 VE VW hI c7 tT
  have hu8f : ∃ z8, u8 = z8 := ⟨_, rfl⟩
  rcases HVW.out with ⟨v1, v2⟩ | ⟨x, y, v1, v2⟩
  · have h1 := HU8.out
    rw [v1] at h1
    obtain rfl := h1.good
    rw [v2] at C2
    clear h1 hu8f
    go_wp2_with fail
    rw [← hW8, ← hgA]
    refine C2.out.mono ?_
    clear C2 cb8 hW8 hgA
    rintro e w9 ⟨hk9, bp, bh, bi, bb, bes, u9, rfl, ha9, hu9⟩
    obtain rfl := hu9.good
    have K9 := Lib.hid (KW8.out.trans hk9)
    have HA9 := Lib.hid ha9
    have KA9 := Lib.hid hk9
    have BA9 := Lib.hid (BA.out.keep hk9)
    obtain ⟨b1, f1, rfl, _⟩ := ha9.parts
    obtain ⟨b2, f2, rfl, _⟩ := ha9.shares
    obtain ⟨b3, f3, rfl, _⟩ := ha9.inits
    obtain ⟨b4, f4, rfl, _⟩ := ha9.bytes
    rw [IV.out]
    obtain ⟨W9, hW9⟩ : ∃ W9, W9 = w9.alloc (.cells #[.int .u32 I.size, .slice b1 I.parts.length f1, .slice b2 I.shares.length f2, .slice b3 I.inits.length f3, .int .i64 I.start, .int .u32 I.addr, .slice b4 I.bytes.length f4] 40) := ⟨_, rfl⟩
    have KB9 : Hid (Keep w9 W9) := Lib.hid (by rw [hW9]; exact (Keep.refl _).alloc _)
    have BB : Hid (Box W9 w9.heap.size #[.int .u32 I.size, .slice b1 I.parts.length f1, .slice b2 I.shares.length f2, .slice b3 I.inits.length f3, .int .i64 I.start, .int .u32 I.addr, .slice b4 I.bytes.length f4]) := Lib.hid (by rw [hW9]; exact Box.new _ _ _)
    have BAW := Lib.hid (BA9.out.keep KB9.out)
    have KE9 := Lib.hid (K9.out.trans KB9.out)
    have CF : Hid (∀ W, Keep W9 W → Calls Tryz.prog 18 #[.agg #[.string o0.name, q0.1, q0.2.1, q0.2.2.1, q0.2.2.2]] W fun e w' => e = .returned (.bool true) ∧ Keep W w') := Lib.hid (fun W hW => fewY_any o0 _ _ _ _ W (HQ0.out.keep (KE9.out.trans hW)) (OF.out.few o0 HO0.out))
    have CS : Hid (∀ W, Keep W9 W → Calls Tryz.prog 17 #[.agg #[.int .u32 I.size, .slice a1 I.parts.length d1, .slice a2 I.shares.length d2, .slice a3 I.inits.length d3, .int .i64 I.start, .int .u32 I.addr, .slice a4 I.bytes.length d4], .agg #[.int .u32 I.size, .slice b1 I.parts.length f1, .slice b2 I.shares.length f2, .slice b3 I.inits.length f3, .int .i64 I.start, .int .u32 I.addr, .slice b4 I.bytes.length f4]] W fun e w' => e = .returned (.bool true) ∧ Keep W w') := Lib.hid (fun W hW => by
      have h := HS.out I I _ _ _ _ _ _ _ _ _ _ W (HA8.out.keep ((KA8.out.trans KA9.out).trans (KB9.out.trans hW))) (HA9.out.keep (KB9.out.trans hW)) NM.out NM.out MI.out MI.out
      rw [IV.out, IV.out] at h
      refine h.mono ?_
      rintro e w' ⟨b, rfl, hb, hk⟩
      obtain rfl : b = true := hb.2 rfl
      exact ⟨rfl, hk⟩)
    obtain ⟨gB, hgB⟩ : ∃ gB, gB = w9.heap.size := ⟨_, rfl⟩
    rw [← hgB] at BB
    clear hk9 hu9 ha9
    go_wp2_with fail
    rw [← hW9, ← hgB]
    clear hW9 hgB
    refine region_grows (Keep W9) (by kernel_rfl) (by kernel_rfl) (Keep.refl _).drew ?_
    repeat (first
      | (apply text_pass (by rfl)
         go_simp)
      | (apply text_step (by rfl)
         · intro W hW
           have ca := (BAW.out.keep hW).cells
           have cb := (BB.out.keep hW).cells
           have la := (BAW.out.keep hW).lt
           have lb' := (BB.out.keep hW).lt
           have r0 := R0.out W (KE9.out.trans hW)
           have r1 := R1.out W (KE9.out.trans hW)
           have r2 := R2.out W (KE9.out.trans hW)
           have r3 := R3.out W (KE9.out.trans hW)
           have r4 := R4.out W (KE9.out.trans hW)
           have lr : lb < W.heap.size := Nat.lt_of_lt_of_le hlb (KE9.out.trans hW).size
           have hp0 := HPN.out
           go_simp
           first
            | exact ⟨rfl, hW⟩
            | (apply yes_enter; go_at_call 17; with_reducible refine (CS.out _ hW).mono ?_; rintro e w' ⟨rfl, hk⟩; exact ⟨rfl, hW.trans hk⟩)
            | (apply yes_enter; go_at_call 18; with_reducible refine (CF.out _ hW).mono ?_; rintro e w' ⟨rfl, hk⟩; exact ⟨rfl, hW.trans hk⟩)
         go_simp))
    apply text_end
    intro WE hWE
    have KE := Lib.hid (KE9.out.trans hWE)
    clear hWE
    go_wp2_with fail
    go_ret
    exact ⟨rfl, KE.out⟩
  · have h1 := HU8.out
    rw [v1] at h1
    obtain ⟨q8, rfl⟩ := h1.bad
    rw [v2] at C2
    clear h1 hu8f
    have GE : Hid (∃ z : Nat, z = q8) := Lib.hid ⟨_, rfl⟩
    unfold faultP
    go_wp2_with fail
    rw [← hW8, ← hgA]
    refine C2.out.mono ?_
    clear C2 cb8 hW8 hgA
    rintro e w9 ⟨hk9, bp, bh, bi, bb, bes, u9, rfl, ha9, hu9⟩
    obtain ⟨q9, rfl⟩ := hu9.bad
    have K9 := Lib.hid (KW8.out.trans hk9)
    have HA9 := Lib.hid ha9
    have KA9 := Lib.hid hk9
    have BA9 := Lib.hid (BA.out.keep hk9)
    obtain ⟨b1, f1, rfl, _⟩ := ha9.parts
    obtain ⟨b2, f2, rfl, _⟩ := ha9.shares
    obtain ⟨b3, f3, rfl, _⟩ := ha9.inits
    obtain ⟨b4, f4, rfl, _⟩ := ha9.bytes
    rw [IV.out]
    obtain ⟨W9, hW9⟩ : ∃ W9, W9 = w9.alloc (.cells #[.int .u32 I.size, .slice b1 I.parts.length f1, .slice b2 I.shares.length f2, .slice b3 I.inits.length f3, .int .i64 I.start, .int .u32 I.addr, .slice b4 I.bytes.length f4] 40) := ⟨_, rfl⟩
    have KB9 : Hid (Keep w9 W9) := Lib.hid (by rw [hW9]; exact (Keep.refl _).alloc _)
    have BB : Hid (Box W9 w9.heap.size #[.int .u32 I.size, .slice b1 I.parts.length f1, .slice b2 I.shares.length f2, .slice b3 I.inits.length f3, .int .i64 I.start, .int .u32 I.addr, .slice b4 I.bytes.length f4]) := Lib.hid (by rw [hW9]; exact Box.new _ _ _)
    have BAW := Lib.hid (BA9.out.keep KB9.out)
    have KE9 := Lib.hid (K9.out.trans KB9.out)
    have CF : Hid (∀ W, Keep W9 W → Calls Tryz.prog 18 #[.agg #[.string o0.name, q0.1, q0.2.1, q0.2.2.1, q0.2.2.2]] W fun e w' => e = .returned (.bool true) ∧ Keep W w') := Lib.hid (fun W hW => fewY_any o0 _ _ _ _ W (HQ0.out.keep (KE9.out.trans hW)) (OF.out.few o0 HO0.out))
    unfold faultP at *
    obtain ⟨gB, hgB⟩ : ∃ gB, gB = w9.heap.size := ⟨_, rfl⟩
    rw [← hgB] at BB
    clear hk9 hu9 ha9
    go_wp2_with fail
    rw [← hW9, ← hgB]
    clear hW9 hgB
    refine region_grows (Keep W9) (by kernel_rfl) (by kernel_rfl) (Keep.refl _).drew ?_
    repeat (first
      | (apply text_pass (by rfl)
         go_simp)
      | (apply text_step (by rfl)
         · intro W hW
           have ca := (BAW.out.keep hW).cells
           have cb := (BB.out.keep hW).cells
           have la := (BAW.out.keep hW).lt
           have lb' := (BB.out.keep hW).lt
           have r0 := R0.out W (KE9.out.trans hW)
           have r1 := R1.out W (KE9.out.trans hW)
           have r2 := R2.out W (KE9.out.trans hW)
           have r3 := R3.out W (KE9.out.trans hW)
           have r4 := R4.out W (KE9.out.trans hW)
           have lr : lb < W.heap.size := Nat.lt_of_lt_of_le hlb (KE9.out.trans hW).size
           have hp0 := HPN.out
           go_simp
           first
            | exact ⟨rfl, hW⟩
            | (apply yes_enter; go_at_call 18; with_reducible refine (CF.out _ hW).mono ?_; rintro e w' ⟨rfl, hk⟩; exact ⟨rfl, hW.trans hk⟩)
         go_simp))
    apply text_end
    intro WE hWE
    have KE := Lib.hid (KE9.out.trans hWE)
    clear hWE
    go_wp2_with fail
    go_ret
    exact ⟨rfl, KE.out⟩
theorem linkTurned_int {Pre : World → Prop} (hP : OPreOk Pre) (hL : PLink Pre) (hS : PImgSame) (m : ManV) (vc vi vs vg : Value) (l : List ObjV) (vl : Value) (qs : List V4) (size : Int) (hz : 0 ≤ size ∧ size ≤ 4294967295) (a : Int) (ha : 0 ≤ a ∧ a ≤ 255) (w : World) (hm : ManAt w m vc vi vs vg) (hmi : ManIn m) (ho : ObjsAt w vl l qs) (hoi : ObjsIn l) (hp : Pre w) :
    Calls Tryz.prog 4 #[manVal m vc vi vs vg, vl, .int .u32 size, .int .u8 a] w fun e w' => e = .returned (.bool true) ∧ Keep w w' := by
  obtain ⟨c, rfl⟩ : ∃ c : Nat, a = c := ⟨a.toNat, by omega⟩
  exact linkTurned_any hP hL hS m vc vi vs vg l vl qs size (by unfold N32; omega) c (by omega) w hm hmi ho hoi hp
end Go.Proofs.YtbmjnfnekmeegaaGreatDoor
