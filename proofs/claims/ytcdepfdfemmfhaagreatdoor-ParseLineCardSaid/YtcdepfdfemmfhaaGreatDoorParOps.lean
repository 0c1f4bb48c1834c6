/- The reference's operands: words between commas. -/
import Derived.Test.YtcdepfdfemmfhaaGreatDoorParMem
import Derived.Test.YtcdepfdfemmfhaaGreatDoorLexAll
import Derived.Test.YtcdepfdfemmfhaaGreatDoorGBase
import Derived.Maps.AppendAt
namespace Go.Proofs.YtcdepfdfemmfhaaGreatDoor
set_option linter.unusedVariables false
set_option linter.unusedSimpArgs false
open Go.RowKit
theorem cellB {S : Nat → Prop} {w w' : World} (k : KeepBut S w w') {b : Nat} (hb : b < w.heap.size) (hS : ¬ S b) {o : Nat} {v : Value} (h : w.cell? ⟨b, o, none⟩ = some v) : w'.cell? ⟨b, o, none⟩ = some v := by
  rw [← h]
  simp only [World.cell?, k.block b hb hS]
/-- append of nothing. -/
theorem run_append_void {P : Program} (W : World) (t ty e : TypeId) (i : TypeInfo) (z : Value) (ht : P.underlying t = some (.slice e)) (hi : P.info? e = some i) (hz : i.zero = some z) (g n c k : Nat) (hn : n ≤ c) :
    (Builtin.append_ #[t, t] ty #[.slice (some ⟨g, 0, none⟩) n c, .slice none 0 k]).run P W = .ok (.slice (some ⟨g, 0, none⟩) n c) W := by
  simp [Builtin.append_, run_underlying ht, sizeOf, typeInfo, hi, hz, Builtin.lenOf, hn, run_firstCells_none, storeCells]
theorem gives_append_void {P : Program} {M : Value → World → Prop} {o : Oper} {a : Act} (W : World) (s x : Operand) (t : TypeId) (ho : o.op = .call { callee := .builtin .append, args := #[s, x], argTypes := #[t, t] })
    (e : TypeId) (i : TypeInfo) (z : Value) (ht : P.underlying t = some (.slice e)) (hi : P.info? e = some i) (hz : i.zero = some z) (g n c k : Nat) (hs : a.eval s = .slice (some ⟨g, 0, none⟩) n c) (hx : a.eval x = .slice none 0 k) (hn : n ≤ c)
    (h : M (.slice (some ⟨g, 0, none⟩) n c) W) : Rel.Gives P M ((execOp a.eval o).run P W) := by
  have hr := run_append_void (P := P) W t o.type e i z ht hi hz g n c k hn
  unfold execOp
  simp only [ho, resolve, invoke, builtin, Sem.run_bind, Sem.run_pure, Result.andThen_ok, List.map_toArray, List.map_cons, List.map_nil, hs, hx, hr]
  exact h
theorem own_empty (W : World) (base : Nat) (e : TypeId) (size : Nat) (hb : base ≤ W.heap.size) : (W.alloc (.cells #[] e)).ownsRow base e size (.slice (some ⟨W.heap.size, 0, none⟩) 0 0) 0 [] :=
  ⟨by simp, .inr ⟨W.heap.size, 0, #[], rfl, hb, heap_alloc_new _ _, Nat.le_refl _, by decide, by simp, by simp⟩⟩
theorem own_cells {w : World} {base : Nat} {e : TypeId} {size n c g : Nat} {xs : List Value} (h : w.ownsRow base e size (.slice (some ⟨g, 0, none⟩) n c) n xs) : ∀ (j : Nat) (u : Value), xs[j]? = some u → w.cell? ((⟨g, 0, none⟩ : Addr).add j) = some u := by
  intro j u hj
  obtain ⟨hl, ⟨h1, _⟩ | ⟨g', cap, cur, hv, hb, hg, hn, hc, hs, ht⟩⟩ := h
  · cases h1
  · cases hv
    have hj' := (List.getElem?_eq_some_iff.1 hj).1
    have B : Box w g cur := ⟨e, hg⟩
    have : cur[j]? = some u := by
      rw [← ht, List.getElem?_take] at hj
      split at hj
      · simpa using hj
      · cases hj
    by_cases hj0 : j = 0
    · subst hj0; simp [Addr.add, B.cells, this]
    · simp [Addr.add, hj0, B.cells, this]
theorem infoSl : (Tryz.prog.info? 43).map (fun i => (i.zero, i.size, i.bytes)) = some (some (.slice none 0 0), 1, 24) := by kernel_rfl
/-- A row of rows: each its own, none in the block of the row of all. -/
def OutAt (w : World) (base : Nat) (v : Value) (out : List (List Tok)) : Prop := ∃ svs : List Value, svs.length = out.length ∧ w.ownsRow base 43 1 v out.length svs ∧
  ∀ (i : Nat) (sv : Value) (l : List Tok), svs[i]? = some sv → out[i]? = some l → w.ownsRow base 56 4 sv l.length (tokRows l) ∧ ∀ g, sv.ownBlock = some g → v.ownBlock ≠ some g
theorem OutAt.keep {w w' : World} {base : Nat} {v : Value} {out : List (List Tok)} (h : OutAt w base v out) (k : Keep w w') : OutAt w' base v out := by
  obtain ⟨svs, h1, h2, h3⟩ := h
  exact ⟨svs, h1, owns_keep h2 k, fun i sv l a b => ⟨owns_keep (h3 i sv l a b).1 k, (h3 i sv l a b).2⟩⟩
theorem OutAt.nil (w : World) (base : Nat) : OutAt w base (.slice none 0 0) [] := ⟨[], rfl, World.ownsRow_nil _ _ _ _, fun i sv l h => by simp at h⟩
theorem owns_one {w : World} {base : Nat} {e : TypeId} {size n : Nat} {v : Value} {xs : List Value} (h : w.ownsRow base e size v n xs) : v.oneCell' = true := by
  rcases h.2 with ⟨rfl, _⟩ | ⟨g, cap, cur, rfl, _⟩ <;> rfl
theorem owns_grown {w w' : World} {base : Nat} {e : TypeId} {size n : Nat} {v : Value} {xs : List Value} {row : Option Nat} (h : w.ownsRow base e size v n xs) (k : w.grownBy w' row) (hr : ∀ g, v.ownBlock = some g → row ≠ some g) : w'.ownsRow base e size v n xs := by
  obtain ⟨h1, h2 | ⟨g, cap, cur, hv, hb, hg, h3⟩⟩ := h
  · exact ⟨h1, .inl h2⟩
  · exact ⟨h1, .inr ⟨g, cap, cur, hv, hb, by rw [k.block g (Array.getElem?_eq_some_iff.1 hg).1 (fun e => hr g (by rw [hv]; rfl) e.symm)]; exact hg, h3⟩⟩
/-- One row more in the row of rows. -/
theorem OutAt.grow {W w3 : World} {base : Nat} {v v' sv : Value} {out : List (List Tok)} {l : List Tok} {svs : List Value} (h1 : svs.length = out.length) (h3 : ∀ (i : Nat) (sv : Value) (l : List Tok), svs[i]? = some sv → out[i]? = some l → W.ownsRow base 56 4 sv l.length (tokRows l) ∧ ∀ g, sv.ownBlock = some g → v.ownBlock ≠ some g)
    (hs : W.ownsRow base 56 4 sv l.length (tokRows l)) (hsn : ∀ g, sv.ownBlock = some g → v.ownBlock ≠ some g) (hown : w3.ownsRow base 43 1 v' (out.length + 1) (svs ++ [sv])) (hg : W.grownBy w3 v.ownBlock) (hb : v'.ownBlock = v.ownBlock ∨ v'.ownBlock = some W.heap.size) :
    OutAt w3 base v' (out ++ [l]) := by
  have new : ∀ (u : Value) (m : List Tok), W.ownsRow base 56 4 u m.length (tokRows m) → (∀ g, u.ownBlock = some g → v.ownBlock ≠ some g) → w3.ownsRow base 56 4 u m.length (tokRows m) ∧ ∀ g, u.ownBlock = some g → v'.ownBlock ≠ some g := by
    intro u m hu hn
    refine ⟨owns_grown hu hg (fun g hg' => hn g hg'), fun g hg' => ?_⟩
    rcases hb with hb | hb
    · rw [hb]; exact hn g hg'
    · rw [hb]
      intro e
      have := (World.ownsRow.lt hu g hg').2
      cases e
      omega
  refine ⟨svs ++ [sv], by simp [h1], by simpa using hown, fun i u m hu hm => ?_⟩
  by_cases hi : i < out.length
  · rw [List.getElem?_append_left (by omega)] at hu
    rw [List.getElem?_append_left hi] at hm
    exact new u m (h3 i u m hu hm).1 (h3 i u m hu hm).2
  · have hi2 : i = out.length := by
      have := (List.getElem?_eq_some_iff.1 hm).1
      simp at this; omega
    subst hi2
    rw [List.getElem?_append_right (by omega), ← h1, Nat.sub_self] at hu
    rw [List.getElem?_append_right (Nat.le_refl _), Nat.sub_self] at hm
    simp at hu hm
    subst hu hm
    exact new _ _ hs hsn
theorem cells_tok {W : World} {b : Nat} {t : Tok} (h : Box W b #[.int .i64 t.kind, .string t.text, .int .i64 t.n, .int .i64 t.pl]) : ∀ (j : Nat) (u : Value), (tokRow t)[j]? = some u → W.cell? ((⟨b, 0, none⟩ : Addr).add j) = some u := by
  intro j u hj
  match j, hj with
  | 0, hj => simp [tokRow] at hj; subst hj; simp [Addr.add, h.cells]
  | 1, hj => simp [tokRow] at hj; subst hj; simp [Addr.add, h.cells]
  | 2, hj => simp [tokRow] at hj; subst hj; simp [Addr.add, h.cells]
  | 3, hj => simp [tokRow] at hj; subst hj; simp [Addr.add, h.cells]
  | (n + 4), hj => simp [tokRow] at hj
theorem tokRows_one (l : List Tok) : ∀ u ∈ tokRows l, u.oneCell' = true := by
  intro u hu
  simp only [tokRows, List.mem_flatMap] at hu
  obtain ⟨t, _, ht⟩ := hu
  exact tokRow_one t u ht
def mOne : Int := -1
/-- What operands answers. -/
def OpsR (l : List Tok) (at_ : Nat) (w : World) (e : Ending) (w' : World) : Prop := match opsL (l.drop at_) at_ [] [] 0 with
  | .error p => e = .returned (.tuple #[.slice none 0 0, .int .i64 p])
  | .ok out => ∃ v, e = .returned (.tuple #[v, .int .i64 mOne]) ∧ OutAt w' w.heap.size v out
theorem OpsR.bad {l : List Tok} {a p : Nat} {w w' : World} (h : opsL (l.drop a) a [] [] 0 = .error p) : OpsR l a w (.returned (.tuple #[.slice none 0 0, .int .i64 p])) w' := by unfold OpsR; rw [h]
theorem OpsR.ok {l : List Tok} {a : Nat} {w w' : World} {out : List (List Tok)} {v : Value} (h : opsL (l.drop a) a [] [] 0 = .ok out) (hv : OutAt w' w.heap.size v out) : OpsR l a w (.returned (.tuple #[v, .int .i64 mOne])) w' := by unfold OpsR; rw [h]; exact ⟨v, rfl, hv⟩
theorem opsL_comma {t : Tok} {r : List Tok} {a : Nat} {out : List (List Tok)} {one : List Tok} (hc : tokIs t sComma = true) (h1 : one ≠ []) : opsL (t :: r) a out one 0 = opsL r (a + 1) (out ++ [one]) [] 0 := by
  show (if 0 = 0 ∧ tokIs t sComma = true then (if one = [] then Except.error a else opsL r (a + 1) (out ++ [one]) [] 0) else opsL r (a + 1) out (one ++ [t]) (openAfter t 0)) = _
  rw [if_pos ⟨rfl, hc⟩, if_neg h1]
theorem opsL_empty {t : Tok} {r : List Tok} {a : Nat} {out : List (List Tok)} (hc : tokIs t sComma = true) : opsL (t :: r) a out [] 0 = .error a := by
  show (if 0 = 0 ∧ tokIs t sComma = true then (if ([] : List Tok) = [] then Except.error a else opsL r (a + 1) (out ++ [[]]) [] 0) else opsL r (a + 1) out ([] ++ [t]) (openAfter t 0)) = _
  rw [if_pos ⟨rfl, hc⟩, if_pos rfl]
theorem opsL_word {t : Tok} {r : List Tok} {a o : Nat} {out : List (List Tok)} {one : List Tok} (h : ¬ (o = 0 ∧ tokIs t sComma = true)) : opsL (t :: r) a out one o = opsL r (a + 1) out (one ++ [t]) (openAfter t o) := by
  show (if o = 0 ∧ tokIs t sComma = true then (if one = [] then Except.error a else opsL r (a + 1) (out ++ [one]) [] 0) else opsL r (a + 1) out (one ++ [t]) (openAfter t o)) = _
  rw [if_neg h]
theorem word_ways (t : Tok) (o : Nat) : (tokIs t sLeft = true ∧ tokIs t sRight = false ∧ openAfter t o = o + 1) ∨ (tokIs t sLeft = false ∧ tokIs t sRight = true ∧ 0 < o ∧ openAfter t o = o - 1) ∨ (tokIs t sLeft = false ∧ tokIs t sRight = true ∧ o = 0 ∧ openAfter t o = o) ∨ (tokIs t sLeft = false ∧ tokIs t sRight = false ∧ openAfter t o = o) := by
  unfold openAfter
  cases d : tokIs t sLeft with
  | true =>
    have e : t.text = sLeft := by unfold tokIs at d; simp at d; exact d.2
    have f : tokIs t sRight = false := by
      unfold tokIs
      rw [e, show decide (sLeft = sRight) = false by decide +kernel, Bool.and_false]
    exact .inl ⟨rfl, f, if_pos rfl⟩
  | false =>
    cases f : tokIs t sRight with
    | true =>
      by_cases z : 0 < o
      · exact .inr (.inl ⟨rfl, rfl, z, by rw [if_neg (by decide), if_pos ⟨rfl, z⟩]⟩)
      · exact .inr (.inr (.inl ⟨rfl, rfl, by omega, by rw [if_neg (by decide), if_neg (fun h => z h.2)]⟩))
    | false => exact .inr (.inr (.inr ⟨rfl, rfl, by rw [if_neg (by decide), if_neg (fun h => by cases h.1)]⟩))
/-- Where the loop stands. -/
def OpAt (l : List Tok) (a0 : Nat) (w : World) (a out one op : Value) (wr : World) : Prop :=
  ∃ (k o : Nat) (os : List (List Tok)) (ws : List Tok), k ≤ l.length ∧ a = .int .i64 (k : Int) ∧ op = .int .i64 (o : Int) ∧ o ≤ k ∧ ws.length ≤ k ∧ os.length ≤ k ∧ opsL (l.drop a0) a0 [] [] 0 = opsL (l.drop k) k os ws o ∧
    OutAt wr w.heap.size out os ∧ wr.ownsRow w.heap.size 56 4 one ws.length (tokRows ws) ∧ (ws = [] → one = .slice none 0 0) ∧ (∀ g, one.ownBlock = some g → out.ownBlock ≠ some g) ∧ Keep w wr
set_option maxHeartbeats 4000000 in
set_option maxRecDepth 100000 in
theorem roperands_any (v : Value) (l : List Tok) (few : l.length ≤ 100000) (a : Nat) (ha : a ≤ l.length) (w : World) (h : TokAt w v l) :
    Calls Tryz.prog 18 #[v, .int .i64 (a : Int)] w fun e w' => OpsR l a w e w' ∧ Keep w w' := by
  obtain ⟨iT, hiT, hzT0, hzT1, hzT2⟩ := info_parts infoTok
  obtain ⟨iS, hiS, hzS0, hzS1, hzS2⟩ := info_parts infoSl
  have HT := Lib.hid h
  obtain ⟨p, cap, rfl, hc, hl⟩ := h
  clear hl
  go_enter Tryz.func18, Tryz.ntmps18
  go_wp2_with fail
  go_loopw [1, 6, 7, 8] (fun a' out one op wr => OpAt l a w a' out one op wr) (fun a' _ _ _ _ => l.length - (intOf a').toNat)
  case atStart => exact ⟨a, 0, [], [], ha, rfl, rfl, by omega, by simp, by simp, rfl, OutAt.nil _ _, World.ownsRow_nil _ _ _ _, fun _ => rfl, (fun g hg => by cases hg), Keep.refl _⟩
  case round =>
    obtain ⟨k, o, os, ws, hk, rfl, rfl, hok, hwk, hsk, hE, hO, hW, hNil, hSep, hK⟩ := hrel
    have HE := Lib.hid hE
    have HO := Lib.hid hO
    have HW := Lib.hid hW
    have HN := Lib.hid hNil
    have HS := Lib.hid hSep
    have HK := Lib.hid hK
    clear hE hO hW hNil hSep hK
    have k0 : (0 : Int) ≤ (k : Int) := Int.natCast_nonneg _
    have o0 : (0 : Int) ≤ (o : Int) := Int.natCast_nonneg _
    by_cases hkl : k < l.length
    · obtain ⟨t, ht⟩ : ∃ t, l[k]? = some t := ⟨_, List.getElem?_eq_getElem hkl⟩
      have hkl' : (k : Int) < (l.length : Int) := by omega
      have hd : l.drop k = t :: l.drop (k + 1) := by
        rw [List.drop_eq_getElem_cons hkl]; congr 1; rw [List.getElem?_eq_getElem hkl] at ht; exact Option.some.inj ht
      have sg : ∀ s, isSg l k s = tokIs t s := fun s => by unfold isSg; rw [ht]
      have HT2 := Lib.hid (HT.out.keep HK.out)
      have C44 := Lib.hid (ris_any _ l (by omega) (k : Int) k rfl sComma _ HT2.out)
      have C40 := Lib.hid (ris_any _ l (by omega) (k : Int) k rfl sLeft _ HT2.out)
      have C41 := Lib.hid (ris_any _ l (by omega) (k : Int) k rfl sRight _ HT2.out)
      rw [sg] at C44 C40 C41
      have E0 := HE.out
      rw [hd] at E0
      by_cases com : o = 0 ∧ tokIs t sComma = true
      · obtain ⟨rfl, hcom⟩ := com
        rw [hcom] at C44
        unfold sComma at C44
        by_cases hws : ws = []
        · subst hws
          rw [opsL_empty hcom] at E0
          have HR := Lib.hid E0
          obtain rfl := HN.out rfl
          clear E0 hd sg ht hcom C40 C41
          go_wp2_with ((with_reducible refine C44.out.mono ?_); rintro e w' ⟨rfl, rfl⟩)
          go_ret2
          exact ⟨OpsR.bad HR.out, HK.out⟩
        · rw [opsL_comma hcom hws] at E0
          have HR := Lib.hid E0
          have HX := HW.out
          rcases HX.2 with ⟨_, h0⟩ | ⟨g, c1, cur, hv, hb, hg, hn, hm, hcs, htk⟩
          · exact absurd (List.length_eq_zero_iff.1 h0) hws
          · have wl : ((ws.length : Int) == 0) = false := by
              have := List.length_pos_iff.2 hws
              simp; omega
            have wl2 : ¬ ws = [] := hws
            subst hv
            obtain ⟨svs, s1, s2, s3⟩ := HO.out
            have S2 := Lib.hid s2
            have S3 := Lib.hid s3
            have S1 := Lib.hid s1
            clear E0 hd sg ht hcom C40 C41 HX hg htk s1 s2 s3 hws
            go_wp2_with (first | ((with_reducible refine C44.out.mono ?_); rintro e w' ⟨rfl, rfl⟩) | (at_builtin; refine wpList_append_own_at _ rfl _ _ 30 rfl w.heap.size 43 iS _ 1 24 Tryz.underlying30 hiS hzS0 hzS1 hzS2 rfl (by decide) _ _ _ rfl (S2.out.alloc _) ⟨wr.heap.size, 0, none⟩ 1 1 [.slice (some ⟨g, 0, none⟩) ws.length c1] rfl rfl ?c1 ?c2 ?c3 ?c4 ?c5 ?_))
            case c1 =>
              have BR := Box.new wr #[.slice (some ⟨g, 0, none⟩) ws.length c1] 43
              intro j u hj
              match j, hj with
              | 0, hj => simp at hj; subst hj; simp [Addr.add, BR.cells]
              | (n + 1), hj => simp at hj
            case c2 => intro u hu; simp at hu; subst hu; rfl
            case c3 => unfold maxLen; omega
            case c4 => omega
            case c5 => have := HK.out.size; simp; omega
            intro v' w3 hown' hgrow _ hblk
            have OG := Lib.hid (OutAt.grow S1.out (fun i sv l' e1 e2 => ⟨owns_keep (S3.out i sv l' e1 e2).1 ((Keep.refl _).alloc _), (S3.out i sv l' e1 e2).2⟩) (owns_keep HW.out ((Keep.refl _).alloc _)) (HS.out) hown' hgrow (by simpa using hblk))
            have KG := Lib.hid (grown_keep (HK.out.alloc _) hgrow (fun c hc => by have := (World.ownsRow.lt S2.out c hc).1; omega))
            clear hgrow hown' hblk
            go_wp2_with fail
            go_roundw
            case rel => exact ⟨k + 1, 0, os ++ [ws], [], by omega, by go_num, rfl, by omega, by simp, by simp; omega, HR.out, OG.out, World.ownsRow_nil _ _ _ _, fun _ => rfl, (fun g hg => by cases hg), KG.out⟩
            case measure => simp [intOf]; omega
      · have ways : (tokIs t sLeft = true ∧ tokIs t sRight = false ∧ openAfter t o = o + 1) ∨ (tokIs t sLeft = false ∧ tokIs t sRight = true ∧ 0 < o ∧ openAfter t o = o - 1) ∨ (tokIs t sLeft = false ∧ tokIs t sRight = true ∧ o = 0 ∧ openAfter t o = o) ∨ (tokIs t sLeft = false ∧ tokIs t sRight = false ∧ openAfter t o = o) := word_ways t o
        have cw : (o = 0 ∧ tokIs t sComma = false) ∨ 0 < o := by
          by_cases z : o = 0
          · exact .inl ⟨z, by cases d : tokIs t sComma with | false => rfl | true => exact absurd ⟨z, d⟩ com⟩
          · exact .inr (by omega)
        rw [opsL_word com] at E0
        obtain ⟨b, off, hp, hb, hcell⟩ : ∃ b off, p = some ⟨b, off, none⟩ ∧ b < w.heap.size ∧ (w.cell? ⟨b, off + k * 4, none⟩ = some (.int .i64 t.kind) ∧ w.cell? ⟨b, off + k * 4 + 1, none⟩ = some (.string t.text) ∧ w.cell? ⟨b, off + k * 4 + 2, none⟩ = some (.int .i64 t.n) ∧ w.cell? ⟨b, off + k * 4 + 3, none⟩ = some (.int .i64 t.pl)) := by
          obtain ⟨p', cap', e, _, h3⟩ := HT.out
          cases e
          rcases h3 with h0 | ⟨b, off, h4, h5, h6⟩
          · rw [h0] at hkl; simp at hkl
          · exact ⟨b, off, h4, h5, h6 k t ht⟩
        subst hp
        have CE := Lib.hid (⟨HK.out.cellOf hcell.1, HK.out.cellOf hcell.2.1, HK.out.cellOf hcell.2.2.1, HK.out.cellOf hcell.2.2.2⟩ : wr.cell? ⟨b, off + k * 4, none⟩ = some (.int .i64 t.kind) ∧ wr.cell? ⟨b, off + k * 4 + 1, none⟩ = some (.string t.text) ∧ wr.cell? ⟨b, off + k * 4 + 2, none⟩ = some (.int .i64 t.n) ∧ wr.cell? ⟨b, off + k * 4 + 3, none⟩ = some (.int .i64 t.pl))
        have HB := Lib.hid (Nat.lt_of_lt_of_le hb HK.out.size : b < wr.heap.size)
        clear hcell ht sg hd com
        obtain ⟨o', E1, HOX⟩ : ∃ o', opsL (l.drop a) a [] [] 0 = opsL (l.drop (k + 1)) (k + 1) os (ws ++ [t]) o' ∧ openAfter t o = o' := ⟨_, E0, rfl⟩
        have HE1 := Lib.hid E1
        clear E0 E1
        obtain ⟨cb, hcb⟩ : ∃ cb, cb = tokIs t sComma := ⟨_, rfl⟩
        rw [← hcb] at C44 cw
        have o1 : o' ≤ k + 1 := by omega
        obtain ⟨svs, _, s2, _⟩ := HO.out
        have S2 := Lib.hid s2
        clear s2
        by_cases hws : ws = []
        · obtain rfl := HN.out hws
          subst hws
          rcases cw with ⟨z, z2⟩ | z <;> rcases ways with ⟨w1, w2, w3⟩ | ⟨w1, w2, w4, w3⟩ | ⟨w1, w2, w4, w3⟩ | ⟨w1, w2, w3⟩
          all_goals (
            first
            | (exfalso; omega)
            | (rw [w1] at C40
               rw [w2] at C41
               unfold sComma at C44
               unfold sLeft at C40
               unfold sRight at C41
               first
                | (have q : ((o : Int) == 0) = true := (by simp; omega)
                   rw [z2] at C44)
                | (have q : ((o : Int) == 0) = false := (by simp; omega))
               first
                | (have q2 : decide ((0 : Int) < (o : Int)) = true := (by simp; omega))
                | (have q2 : decide ((0 : Int) < (o : Int)) = false := (by simp; omega))
               go_wp2_with (first | ((with_reducible refine C44.out.mono ?_); rintro e w' ⟨rfl, rfl⟩) | ((with_reducible refine C40.out.mono ?_); rintro e w' ⟨rfl, rfl⟩) | ((with_reducible refine C41.out.mono ?_); rintro e w' ⟨rfl, rfl⟩))
               have KR := Lib.hid (Keep.refl wr)
               refine Rel.regionP (KeepBut (fun z => wr.heap.size ≤ z)) (butWay _) [] [1, 3, 4, 5, 6] 5 (by kernel_rfl) (by kernel_rfl) (Keep.refl _) ?_
               repeat (apply Rel.pre_step (by rfl) (by rfl) (by rfl)
                       · intro W' hW'
                         have c0 := cellB hW' HB.out (by have := HB.out; omega) CE.out.1
                         have c1 := cellB hW' HB.out (by have := HB.out; omega) CE.out.2.1
                         have c2 := cellB hW' HB.out (by have := HB.out; omega) CE.out.2.2.1
                         have c3 := cellB hW' HB.out (by have := HB.out; omega) CE.out.2.2.2
                         go_simp
                         exact ⟨rfl, Keep.refl _⟩
                       go_simp)
               apply Rel.pre_end
               refine Rel.every_two 0 7 (by kernel_rfl) (by rfl) (by rfl) (by rfl) (by rfl) ?_ ?_
               · intro W1 h1
                 go_simp
                 apply Rel.gives_value
                 refine ⟨((Keep.refl _).alloc _).but _, ?_⟩
                 have OA1 := Lib.hid (own_empty W1 wr.heap.size 56 4 ((KR.out.trans h1).size))
                 have K1 := Lib.hid ((KR.out.trans h1).alloc (.cells #[] 56))
                 clear h1
                 go_simp
                 refine Rel.every_two 2 7 (by kernel_rfl) (by rfl) (by rfl) (by rfl) (by rfl) ?_ ?_
                 · intro W2 h2
                   refine gives_append_void W2 (.tmp 44) (.tmp 45) 43 rfl 56 iT _ Tryz.underlying43 hiT hzT0 W1.heap.size 0 0 0 rfl rfl (Nat.le_refl _) ?_
                   refine ⟨(Keep.refl _).but _, ?_⟩
                   have OA2 := Lib.hid (owns_keep OA1.out h2)
                   have K2 := Lib.hid (K1.out.trans h2)
                   clear h2
                   go_simp
                   apply Rel.every_one 7 (by kernel_rfl) (by rfl) (by rfl)
                   intro W3 h3
                   go_simp
                   apply Rel.gives_value
                   refine ⟨((Keep.refl _).alloc _).but _, ?_⟩
                   have BX3 := Lib.hid (Box.new W3 #[.int .i64 t.kind, .string t.text, .int .i64 t.n, .int .i64 t.pl] 56)
                   have K3 := Lib.hid ((K2.out.trans h3).alloc (.cells #[.int .i64 t.kind, .string t.text, .int .i64 t.n, .int .i64 t.pl] 56))
                   have OA3 := Lib.hid ((owns_keep OA2.out h3).alloc (.cells #[.int .i64 t.kind, .string t.text, .int .i64 t.n, .int .i64 t.pl] 56))
                   clear h3
                   go_simp
                   apply Rel.every_one 8 (by kernel_rfl) (by rfl) (by rfl)
                   intro W4 h4
                   have B8 := BX3.out.keep h4
                   refine gives_append W4 (.tmp 46) (.tmp 51) 43 rfl wr.heap.size 56 iT _ 4 40 Tryz.underlying43 hiT hzT0 hzT1 hzT2 rfl (by decide) _ 0 [] rfl (owns_keep OA3.out h4) ⟨W3.heap.size, 0, none⟩ 1 1 (tokRow t) rfl rfl (cells_tok B8) (tokRow_one t) (by unfold maxLen; omega) (by omega) ((K3.out.trans h4).size) ?_
                   intro v8 V8 o8 g8
                   refine ⟨grown_but g8 _ (fun g hg => (World.ownsRow.lt OA3.out g hg).1), ?_⟩
                   have O8 := Lib.hid o8
                   have K8 := Lib.hid (grown_keep (K3.out.trans h4) g8 (fun c hc => (World.ownsRow.lt OA3.out c hc).1))
                   clear o8 g8 h4 B8
                   go_simp
                   apply Rel.every_one 9 (by kernel_rfl) (by rfl) (by rfl)
                   intro W5 h5
                   go_simp
                   apply Rel.gives_value
                   refine ⟨(Keep.refl _).but _, ?_⟩
                   have O9 := Lib.hid (owns_keep O8.out h5)
                   have K9 := Lib.hid (K8.out.trans h5)
                   clear h5
                   go_simp
                   refine Rel.every_end (by kernel_rfl) ?_
                   intro WE hE2
                   have OE := Lib.hid (owns_keep O9.out hE2)
                   have KE := Lib.hid (K9.out.trans hE2)
                   clear hE2
                   go_wp2_with fail
                   have OE2 := Lib.hid (owns_base OE.out HK.out.size)
                   refine ⟨⟨k + 1, o', os, _, by omega, by first | rfl | go_num | simp, by first | rfl | (congr 1; omega), o1, ?_, by omega, HE1.out, HO.out.keep KE.out, ?_, ?_, fun g hg e => ?_, HK.out.trans KE.out⟩, by simp [intOf]; omega⟩
                   · simp; try omega
                   · simpa [tokRows_append, tokRows] using OE2.out
                   · intro e; simp at e
                   · have e1 := (World.ownsRow.lt OE.out g hg).1
                     have e2 := (World.ownsRow.lt S2.out g e).2
                     omega
                 · intro W2 h2
                   go_simp
                   apply Rel.gives_value
                   refine ⟨((Keep.refl _).alloc _).but _, ?_⟩
                   have BX2 := Lib.hid (Box.new W2 #[.int .i64 t.kind, .string t.text, .int .i64 t.n, .int .i64 t.pl] 56)
                   have K2 := Lib.hid ((K1.out.trans h2).alloc (.cells #[.int .i64 t.kind, .string t.text, .int .i64 t.n, .int .i64 t.pl] 56))
                   have OA2 := Lib.hid ((owns_keep OA1.out h2).alloc (.cells #[.int .i64 t.kind, .string t.text, .int .i64 t.n, .int .i64 t.pl] 56))
                   have lt2 : W1.heap.size < W2.heap.size := by have := h2.size; simp at this; omega
                   clear h2
                   go_simp
                   apply Rel.every_one 2 (by kernel_rfl) (by rfl) (by rfl)
                   intro W3 h3
                   refine gives_append_void W3 (.tmp 44) (.tmp 45) 43 rfl 56 iT _ Tryz.underlying43 hiT hzT0 W1.heap.size 0 0 0 rfl rfl (Nat.le_refl _) ?_
                   refine ⟨(Keep.refl _).but _, ?_⟩
                   have OA3 := Lib.hid (owns_keep OA2.out h3)
                   have K3 := Lib.hid (K2.out.trans h3)
                   have BX3 := Lib.hid (BX2.out.keep h3)
                   clear h3
                   go_simp
                   apply Rel.every_one 8 (by kernel_rfl) (by rfl) (by rfl)
                   intro W4 h4
                   have B8 := BX3.out.keep h4
                   refine gives_append W4 (.tmp 46) (.tmp 51) 43 rfl wr.heap.size 56 iT _ 4 40 Tryz.underlying43 hiT hzT0 hzT1 hzT2 rfl (by decide) _ 0 [] rfl (owns_keep OA3.out h4) ⟨W2.heap.size, 0, none⟩ 1 1 (tokRow t) rfl rfl (cells_tok B8) (tokRow_one t) (by unfold maxLen; omega) (by omega) ((K3.out.trans h4).size) ?_
                   intro v8 V8 o8 g8
                   refine ⟨grown_but g8 _ (fun g hg => (World.ownsRow.lt OA3.out g hg).1), ?_⟩
                   have O8 := Lib.hid o8
                   have K8 := Lib.hid (grown_keep (K3.out.trans h4) g8 (fun c hc => (World.ownsRow.lt OA3.out c hc).1))
                   clear o8 g8 h4 B8
                   go_simp
                   apply Rel.every_one 9 (by kernel_rfl) (by rfl) (by rfl)
                   intro W5 h5
                   go_simp
                   apply Rel.gives_value
                   refine ⟨(Keep.refl _).but _, ?_⟩
                   have O9 := Lib.hid (owns_keep O8.out h5)
                   have K9 := Lib.hid (K8.out.trans h5)
                   clear h5
                   go_simp
                   refine Rel.every_end (by kernel_rfl) ?_
                   intro WE hE2
                   have OE := Lib.hid (owns_keep O9.out hE2)
                   have KE := Lib.hid (K9.out.trans hE2)
                   clear hE2
                   go_wp2_with fail
                   have OE2 := Lib.hid (owns_base OE.out HK.out.size)
                   refine ⟨⟨k + 1, o', os, _, by omega, by first | rfl | go_num | simp, by first | rfl | (congr 1; omega), o1, ?_, by omega, HE1.out, HO.out.keep KE.out, ?_, ?_, fun g hg e => ?_, HK.out.trans KE.out⟩, by simp [intOf]; omega⟩
                   · simp; try omega
                   · simpa [tokRows_append, tokRows] using OE2.out
                   · intro e; simp at e
                   · have e1 := (World.ownsRow.lt OE.out g hg).1
                     have e2 := (World.ownsRow.lt S2.out g e).2
                     omega
               · intro W1 h1
                 go_simp
                 apply Rel.gives_value
                 refine ⟨((Keep.refl _).alloc _).but _, ?_⟩
                 have BX1 := Lib.hid (Box.new W1 #[.int .i64 t.kind, .string t.text, .int .i64 t.n, .int .i64 t.pl] 56)
                 have K1 := Lib.hid ((KR.out.trans h1).alloc (.cells #[.int .i64 t.kind, .string t.text, .int .i64 t.n, .int .i64 t.pl] 56))
                 clear h1
                 go_simp
                 apply Rel.every_one 0 (by kernel_rfl) (by rfl) (by rfl)
                 intro W2 h2
                 go_simp
                 apply Rel.gives_value
                 refine ⟨((Keep.refl _).alloc _).but _, ?_⟩
                 have OA2 := Lib.hid (own_empty W2 wr.heap.size 56 4 ((K1.out.trans h2).size))
                 have K2 := Lib.hid ((K1.out.trans h2).alloc (.cells #[] 56))
                 have BX2 := Lib.hid ((BX1.out.keep h2).alloc (.cells #[] 56))
                 have lt2 : W1.heap.size < W2.heap.size := by have := h2.size; simp at this; omega
                 clear h2
                 go_simp
                 apply Rel.every_one 2 (by kernel_rfl) (by rfl) (by rfl)
                 intro W3 h3
                 refine gives_append_void W3 (.tmp 44) (.tmp 45) 43 rfl 56 iT _ Tryz.underlying43 hiT hzT0 W2.heap.size 0 0 0 rfl rfl (Nat.le_refl _) ?_
                 refine ⟨(Keep.refl _).but _, ?_⟩
                 have OA3 := Lib.hid (owns_keep OA2.out h3)
                 have K3 := Lib.hid (K2.out.trans h3)
                 have BX3 := Lib.hid (BX2.out.keep h3)
                 clear h3
                 go_simp
                 apply Rel.every_one 8 (by kernel_rfl) (by rfl) (by rfl)
                 intro W4 h4
                 have B8 := BX3.out.keep h4
                 refine gives_append W4 (.tmp 46) (.tmp 51) 43 rfl wr.heap.size 56 iT _ 4 40 Tryz.underlying43 hiT hzT0 hzT1 hzT2 rfl (by decide) _ 0 [] rfl (owns_keep OA3.out h4) ⟨W1.heap.size, 0, none⟩ 1 1 (tokRow t) rfl rfl (cells_tok B8) (tokRow_one t) (by unfold maxLen; omega) (by omega) ((K3.out.trans h4).size) ?_
                 intro v8 V8 o8 g8
                 refine ⟨grown_but g8 _ (fun g hg => (World.ownsRow.lt OA3.out g hg).1), ?_⟩
                 have O8 := Lib.hid o8
                 have K8 := Lib.hid (grown_keep (K3.out.trans h4) g8 (fun c hc => (World.ownsRow.lt OA3.out c hc).1))
                 clear o8 g8 h4 B8
                 go_simp
                 apply Rel.every_one 9 (by kernel_rfl) (by rfl) (by rfl)
                 intro W5 h5
                 go_simp
                 apply Rel.gives_value
                 refine ⟨(Keep.refl _).but _, ?_⟩
                 have O9 := Lib.hid (owns_keep O8.out h5)
                 have K9 := Lib.hid (K8.out.trans h5)
                 clear h5
                 go_simp
                 refine Rel.every_end (by kernel_rfl) ?_
                 intro WE hE2
                 have OE := Lib.hid (owns_keep O9.out hE2)
                 have KE := Lib.hid (K9.out.trans hE2)
                 clear hE2
                 go_wp2_with fail
                 have OE2 := Lib.hid (owns_base OE.out HK.out.size)
                 refine ⟨⟨k + 1, o', os, _, by omega, by first | rfl | go_num | simp, by first | rfl | (congr 1; omega), o1, ?_, by omega, HE1.out, HO.out.keep KE.out, ?_, ?_, fun g hg e => ?_, HK.out.trans KE.out⟩, by simp [intOf]; omega⟩
                 · simp; try omega
                 · simpa [tokRows_append, tokRows] using OE2.out
                 · intro e; simp at e
                 · have e1 := (World.ownsRow.lt OE.out g hg).1
                   have e2 := (World.ownsRow.lt S2.out g e).2
                   omega
               ))
        · have HX := HW.out
          rcases HX.2 with ⟨_, h0⟩ | ⟨g, c1, cur, hv, hb', hg, hn, hm, hcs, htk⟩
          · exact absurd (List.length_eq_zero_iff.1 h0) hws
          subst hv
          have SRC := Lib.hid (fun W (hW : Keep wr W) => own_cells (owns_keep HW.out hW))
          clear HX hg htk
          rcases cw with ⟨z, z2⟩ | z <;> rcases ways with ⟨w1, w2, w3⟩ | ⟨w1, w2, w4, w3⟩ | ⟨w1, w2, w4, w3⟩ | ⟨w1, w2, w3⟩
          all_goals (
            first
            | (exfalso; omega)
            | (rw [w1] at C40
               rw [w2] at C41
               unfold sComma at C44
               unfold sLeft at C40
               unfold sRight at C41
               first
                | (have q : ((o : Int) == 0) = true := (by simp; omega)
                   rw [z2] at C44)
                | (have q : ((o : Int) == 0) = false := (by simp; omega))
               first
                | (have q2 : decide ((0 : Int) < (o : Int)) = true := (by simp; omega))
                | (have q2 : decide ((0 : Int) < (o : Int)) = false := (by simp; omega))
               go_wp2_with (first | ((with_reducible refine C44.out.mono ?_); rintro e w' ⟨rfl, rfl⟩) | ((with_reducible refine C40.out.mono ?_); rintro e w' ⟨rfl, rfl⟩) | ((with_reducible refine C41.out.mono ?_); rintro e w' ⟨rfl, rfl⟩))
               have KR := Lib.hid (Keep.refl wr)
               refine Rel.regionP (KeepBut (fun z => wr.heap.size ≤ z)) (butWay _) [] [1, 3, 4, 5, 6] 5 (by kernel_rfl) (by kernel_rfl) (Keep.refl _) ?_
               repeat (apply Rel.pre_step (by rfl) (by rfl) (by rfl)
                       · intro W' hW'
                         have c0 := cellB hW' HB.out (by have := HB.out; omega) CE.out.1
                         have c1 := cellB hW' HB.out (by have := HB.out; omega) CE.out.2.1
                         have c2 := cellB hW' HB.out (by have := HB.out; omega) CE.out.2.2.1
                         have c3 := cellB hW' HB.out (by have := HB.out; omega) CE.out.2.2.2
                         go_simp
                         exact ⟨rfl, Keep.refl _⟩
                       go_simp)
               apply Rel.pre_end
               refine Rel.every_two 0 7 (by kernel_rfl) (by rfl) (by rfl) (by rfl) (by rfl) ?_ ?_
               · intro W1 h1
                 go_simp
                 apply Rel.gives_value
                 refine ⟨((Keep.refl _).alloc _).but _, ?_⟩
                 have OA1 := Lib.hid (own_empty W1 wr.heap.size 56 4 ((KR.out.trans h1).size))
                 have K1 := Lib.hid ((KR.out.trans h1).alloc (.cells #[] 56))
                 clear h1
                 go_simp
                 refine Rel.every_two 2 7 (by kernel_rfl) (by rfl) (by rfl) (by rfl) (by rfl) ?_ ?_
                 · intro W2 h2
                   refine gives_append W2 (.tmp 44) (.tmp 45) 43 rfl wr.heap.size 56 iT _ 4 40 Tryz.underlying43 hiT hzT0 hzT1 hzT2 rfl (by decide) _ 0 [] rfl (owns_keep OA1.out h2) ⟨g, 0, none⟩ ws.length c1 (tokRows ws) rfl (tokRows_length ws) (SRC.out W2 (K1.out.trans h2)) (tokRows_one ws) (by unfold maxLen; omega) (by omega) ((K1.out.trans h2).size) ?_
                   intro v2 V2 o2 g2
                   refine ⟨grown_but g2 _ (fun g hg => (World.ownsRow.lt OA1.out g hg).1), ?_⟩
                   have OA2 : Hid (V2.ownsRow wr.heap.size 56 4 v2 ws.length (tokRows ws)) := Lib.hid (by simpa using o2)
                   have K2 := Lib.hid (grown_keep (K1.out.trans h2) g2 (fun c hc => (World.ownsRow.lt OA1.out c hc).1))
                   clear o2 g2
                   clear h2
                   go_simp
                   apply Rel.every_one 7 (by kernel_rfl) (by rfl) (by rfl)
                   intro W3 h3
                   go_simp
                   apply Rel.gives_value
                   refine ⟨((Keep.refl _).alloc _).but _, ?_⟩
                   have BX3 := Lib.hid (Box.new W3 #[.int .i64 t.kind, .string t.text, .int .i64 t.n, .int .i64 t.pl] 56)
                   have K3 := Lib.hid ((K2.out.trans h3).alloc (.cells #[.int .i64 t.kind, .string t.text, .int .i64 t.n, .int .i64 t.pl] 56))
                   have OA3 := Lib.hid ((owns_keep OA2.out h3).alloc (.cells #[.int .i64 t.kind, .string t.text, .int .i64 t.n, .int .i64 t.pl] 56))
                   clear h3
                   go_simp
                   apply Rel.every_one 8 (by kernel_rfl) (by rfl) (by rfl)
                   intro W4 h4
                   have B8 := BX3.out.keep h4
                   refine gives_append W4 (.tmp 46) (.tmp 51) 43 rfl wr.heap.size 56 iT _ 4 40 Tryz.underlying43 hiT hzT0 hzT1 hzT2 rfl (by decide) _ ws.length (tokRows ws) rfl (owns_keep OA3.out h4) ⟨W3.heap.size, 0, none⟩ 1 1 (tokRow t) rfl rfl (cells_tok B8) (tokRow_one t) (by unfold maxLen; omega) (by omega) ((K3.out.trans h4).size) ?_
                   intro v8 V8 o8 g8
                   refine ⟨grown_but g8 _ (fun g hg => (World.ownsRow.lt OA3.out g hg).1), ?_⟩
                   have O8 := Lib.hid o8
                   have K8 := Lib.hid (grown_keep (K3.out.trans h4) g8 (fun c hc => (World.ownsRow.lt OA3.out c hc).1))
                   clear o8 g8 h4 B8
                   go_simp
                   apply Rel.every_one 9 (by kernel_rfl) (by rfl) (by rfl)
                   intro W5 h5
                   go_simp
                   apply Rel.gives_value
                   refine ⟨(Keep.refl _).but _, ?_⟩
                   have O9 := Lib.hid (owns_keep O8.out h5)
                   have K9 := Lib.hid (K8.out.trans h5)
                   clear h5
                   go_simp
                   refine Rel.every_end (by kernel_rfl) ?_
                   intro WE hE2
                   have OE := Lib.hid (owns_keep O9.out hE2)
                   have KE := Lib.hid (K9.out.trans hE2)
                   clear hE2
                   go_wp2_with fail
                   have OE2 := Lib.hid (owns_base OE.out HK.out.size)
                   refine ⟨⟨k + 1, o', os, _, by omega, by first | rfl | go_num | simp, by first | rfl | (congr 1; omega), o1, ?_, by omega, HE1.out, HO.out.keep KE.out, ?_, ?_, fun g hg e => ?_, HK.out.trans KE.out⟩, by simp [intOf]; omega⟩
                   · simp; try omega
                   · simpa [tokRows_append, tokRows] using OE2.out
                   · intro e; simp at e
                   · have e1 := (World.ownsRow.lt OE.out g hg).1
                     have e2 := (World.ownsRow.lt S2.out g e).2
                     omega
                 · intro W2 h2
                   go_simp
                   apply Rel.gives_value
                   refine ⟨((Keep.refl _).alloc _).but _, ?_⟩
                   have BX2 := Lib.hid (Box.new W2 #[.int .i64 t.kind, .string t.text, .int .i64 t.n, .int .i64 t.pl] 56)
                   have K2 := Lib.hid ((K1.out.trans h2).alloc (.cells #[.int .i64 t.kind, .string t.text, .int .i64 t.n, .int .i64 t.pl] 56))
                   have OA2 := Lib.hid ((owns_keep OA1.out h2).alloc (.cells #[.int .i64 t.kind, .string t.text, .int .i64 t.n, .int .i64 t.pl] 56))
                   have lt2 : W1.heap.size < W2.heap.size := by have := h2.size; simp at this; omega
                   clear h2
                   go_simp
                   apply Rel.every_one 2 (by kernel_rfl) (by rfl) (by rfl)
                   intro W3 h3
                   refine gives_append W3 (.tmp 44) (.tmp 45) 43 rfl wr.heap.size 56 iT _ 4 40 Tryz.underlying43 hiT hzT0 hzT1 hzT2 rfl (by decide) _ 0 [] rfl (owns_keep OA2.out h3) ⟨g, 0, none⟩ ws.length c1 (tokRows ws) rfl (tokRows_length ws) (SRC.out W3 (K2.out.trans h3)) (tokRows_one ws) (by unfold maxLen; omega) (by omega) ((K2.out.trans h3).size) ?_
                   have NE3 : Hid (¬ some W2.heap.size = Value.ownBlock (.slice (some ⟨W1.heap.size, 0, none⟩) 0 0)) := Lib.hid (by simp [Value.ownBlock]; omega)
                   intro v3 V3 o3 g3
                   refine ⟨grown_but g3 _ (fun g hg => (World.ownsRow.lt OA2.out g hg).1), ?_⟩
                   have OA3 : Hid (V3.ownsRow wr.heap.size 56 4 v3 ws.length (tokRows ws)) := Lib.hid (by simpa using o3)
                   have K3 := Lib.hid (grown_keep (K2.out.trans h3) g3 (fun c hc => (World.ownsRow.lt OA2.out c hc).1))
                   have BX3 := Lib.hid (grown_box g3 (BX2.out.keep h3) (fun hc => NE3.out hc))
                   clear o3 g3
                   clear h3
                   go_simp
                   apply Rel.every_one 8 (by kernel_rfl) (by rfl) (by rfl)
                   intro W4 h4
                   have B8 := BX3.out.keep h4
                   refine gives_append W4 (.tmp 46) (.tmp 51) 43 rfl wr.heap.size 56 iT _ 4 40 Tryz.underlying43 hiT hzT0 hzT1 hzT2 rfl (by decide) _ ws.length (tokRows ws) rfl (owns_keep OA3.out h4) ⟨W2.heap.size, 0, none⟩ 1 1 (tokRow t) rfl rfl (cells_tok B8) (tokRow_one t) (by unfold maxLen; omega) (by omega) ((K3.out.trans h4).size) ?_
                   intro v8 V8 o8 g8
                   refine ⟨grown_but g8 _ (fun g hg => (World.ownsRow.lt OA3.out g hg).1), ?_⟩
                   have O8 := Lib.hid o8
                   have K8 := Lib.hid (grown_keep (K3.out.trans h4) g8 (fun c hc => (World.ownsRow.lt OA3.out c hc).1))
                   clear o8 g8 h4 B8
                   go_simp
                   apply Rel.every_one 9 (by kernel_rfl) (by rfl) (by rfl)
                   intro W5 h5
                   go_simp
                   apply Rel.gives_value
                   refine ⟨(Keep.refl _).but _, ?_⟩
                   have O9 := Lib.hid (owns_keep O8.out h5)
                   have K9 := Lib.hid (K8.out.trans h5)
                   clear h5
                   go_simp
                   refine Rel.every_end (by kernel_rfl) ?_
                   intro WE hE2
                   have OE := Lib.hid (owns_keep O9.out hE2)
                   have KE := Lib.hid (K9.out.trans hE2)
                   clear hE2
                   go_wp2_with fail
                   have OE2 := Lib.hid (owns_base OE.out HK.out.size)
                   refine ⟨⟨k + 1, o', os, _, by omega, by first | rfl | go_num | simp, by first | rfl | (congr 1; omega), o1, ?_, by omega, HE1.out, HO.out.keep KE.out, ?_, ?_, fun g hg e => ?_, HK.out.trans KE.out⟩, by simp [intOf]; omega⟩
                   · simp; try omega
                   · simpa [tokRows_append, tokRows] using OE2.out
                   · intro e; simp at e
                   · have e1 := (World.ownsRow.lt OE.out g hg).1
                     have e2 := (World.ownsRow.lt S2.out g e).2
                     omega
               · intro W1 h1
                 go_simp
                 apply Rel.gives_value
                 refine ⟨((Keep.refl _).alloc _).but _, ?_⟩
                 have BX1 := Lib.hid (Box.new W1 #[.int .i64 t.kind, .string t.text, .int .i64 t.n, .int .i64 t.pl] 56)
                 have K1 := Lib.hid ((KR.out.trans h1).alloc (.cells #[.int .i64 t.kind, .string t.text, .int .i64 t.n, .int .i64 t.pl] 56))
                 clear h1
                 go_simp
                 apply Rel.every_one 0 (by kernel_rfl) (by rfl) (by rfl)
                 intro W2 h2
                 go_simp
                 apply Rel.gives_value
                 refine ⟨((Keep.refl _).alloc _).but _, ?_⟩
                 have OA2 := Lib.hid (own_empty W2 wr.heap.size 56 4 ((K1.out.trans h2).size))
                 have K2 := Lib.hid ((K1.out.trans h2).alloc (.cells #[] 56))
                 have BX2 := Lib.hid ((BX1.out.keep h2).alloc (.cells #[] 56))
                 have lt2 : W1.heap.size < W2.heap.size := by have := h2.size; simp at this; omega
                 clear h2
                 go_simp
                 apply Rel.every_one 2 (by kernel_rfl) (by rfl) (by rfl)
                 intro W3 h3
                 refine gives_append W3 (.tmp 44) (.tmp 45) 43 rfl wr.heap.size 56 iT _ 4 40 Tryz.underlying43 hiT hzT0 hzT1 hzT2 rfl (by decide) _ 0 [] rfl (owns_keep OA2.out h3) ⟨g, 0, none⟩ ws.length c1 (tokRows ws) rfl (tokRows_length ws) (SRC.out W3 (K2.out.trans h3)) (tokRows_one ws) (by unfold maxLen; omega) (by omega) ((K2.out.trans h3).size) ?_
                 have NE3 : Hid (¬ some W1.heap.size = Value.ownBlock (.slice (some ⟨W2.heap.size, 0, none⟩) 0 0)) := Lib.hid (by simp [Value.ownBlock]; omega)
                 intro v3 V3 o3 g3
                 refine ⟨grown_but g3 _ (fun g hg => (World.ownsRow.lt OA2.out g hg).1), ?_⟩
                 have OA3 : Hid (V3.ownsRow wr.heap.size 56 4 v3 ws.length (tokRows ws)) := Lib.hid (by simpa using o3)
                 have K3 := Lib.hid (grown_keep (K2.out.trans h3) g3 (fun c hc => (World.ownsRow.lt OA2.out c hc).1))
                 have BX3 := Lib.hid (grown_box g3 (BX2.out.keep h3) (fun hc => NE3.out hc))
                 clear o3 g3
                 clear h3
                 go_simp
                 apply Rel.every_one 8 (by kernel_rfl) (by rfl) (by rfl)
                 intro W4 h4
                 have B8 := BX3.out.keep h4
                 refine gives_append W4 (.tmp 46) (.tmp 51) 43 rfl wr.heap.size 56 iT _ 4 40 Tryz.underlying43 hiT hzT0 hzT1 hzT2 rfl (by decide) _ ws.length (tokRows ws) rfl (owns_keep OA3.out h4) ⟨W1.heap.size, 0, none⟩ 1 1 (tokRow t) rfl rfl (cells_tok B8) (tokRow_one t) (by unfold maxLen; omega) (by omega) ((K3.out.trans h4).size) ?_
                 intro v8 V8 o8 g8
                 refine ⟨grown_but g8 _ (fun g hg => (World.ownsRow.lt OA3.out g hg).1), ?_⟩
                 have O8 := Lib.hid o8
                 have K8 := Lib.hid (grown_keep (K3.out.trans h4) g8 (fun c hc => (World.ownsRow.lt OA3.out c hc).1))
                 clear o8 g8 h4 B8
                 go_simp
                 apply Rel.every_one 9 (by kernel_rfl) (by rfl) (by rfl)
                 intro W5 h5
                 go_simp
                 apply Rel.gives_value
                 refine ⟨(Keep.refl _).but _, ?_⟩
                 have O9 := Lib.hid (owns_keep O8.out h5)
                 have K9 := Lib.hid (K8.out.trans h5)
                 clear h5
                 go_simp
                 refine Rel.every_end (by kernel_rfl) ?_
                 intro WE hE2
                 have OE := Lib.hid (owns_keep O9.out hE2)
                 have KE := Lib.hid (K9.out.trans hE2)
                 clear hE2
                 go_wp2_with fail
                 have OE2 := Lib.hid (owns_base OE.out HK.out.size)
                 refine ⟨⟨k + 1, o', os, _, by omega, by first | rfl | go_num | simp, by first | rfl | (congr 1; omega), o1, ?_, by omega, HE1.out, HO.out.keep KE.out, ?_, ?_, fun g hg e => ?_, HK.out.trans KE.out⟩, by simp [intOf]; omega⟩
                 · simp; try omega
                 · simpa [tokRows_append, tokRows] using OE2.out
                 · intro e; simp at e
                 · have e1 := (World.ownsRow.lt OE.out g hg).1
                   have e2 := (World.ownsRow.lt S2.out g e).2
                   omega
               ))
    · obtain rfl : k = l.length := by omega
      have E1 := HE.out
      rw [List.drop_eq_nil_of_le (Nat.le_refl _)] at E1
      by_cases hws : ws = []
      · subst hws
        have HR : Hid (opsL (l.drop a) a [] [] 0 = .error l.length) := Lib.hid (E1.trans rfl)
        obtain rfl := HN.out rfl
        clear E1
        go_wp2_with fail
        go_ret2
        exact ⟨OpsR.bad HR.out, HK.out⟩
      · have HR : Hid (opsL (l.drop a) a [] [] 0 = .ok (os ++ [ws])) := Lib.hid (E1.trans (if_neg hws))
        have HX := HW.out
        rcases HX.2 with ⟨_, h0⟩ | ⟨g, c1, cur, hv, hb, hg, hn, hm, hcs, htk⟩
        · exact absurd (List.length_eq_zero_iff.1 h0) hws
        · have wl : ((ws.length : Int) == 0) = false := by
            have := List.length_pos_iff.2 hws
            simp; omega
          have wl2 : ¬ ws = [] := hws
          subst hv
          obtain ⟨svs, s1, s2, s3⟩ := HO.out
          have S2 := Lib.hid s2
          have S3 := Lib.hid s3
          have S1 := Lib.hid s1
          clear E1 HX hg htk s1 s2 s3 hws
          go_wp2_with (at_builtin; refine wpList_append_own_at _ rfl _ _ 30 rfl w.heap.size 43 iS _ 1 24 Tryz.underlying30 hiS hzS0 hzS1 hzS2 rfl (by decide) _ _ _ rfl (S2.out.alloc _) ⟨wr.heap.size, 0, none⟩ 1 1 [.slice (some ⟨g, 0, none⟩) ws.length c1] rfl rfl ?c1 ?c2 ?c3 ?c4 ?c5 ?_)
          case c1 =>
            have BR := Box.new wr #[.slice (some ⟨g, 0, none⟩) ws.length c1] 43
            intro j u hj
            match j, hj with
            | 0, hj => simp at hj; subst hj; simp [Addr.add, BR.cells]
            | (n + 1), hj => simp at hj
          case c2 => intro u hu; simp at hu; subst hu; rfl
          case c3 => unfold maxLen; omega
          case c4 => omega
          case c5 => have := HK.out.size; simp; omega
          intro v' w3 hown' hgrow _ hblk
          have OG := Lib.hid (OutAt.grow S1.out (fun i sv l' e1 e2 => ⟨owns_keep (S3.out i sv l' e1 e2).1 ((Keep.refl _).alloc _), (S3.out i sv l' e1 e2).2⟩) (owns_keep HW.out ((Keep.refl _).alloc _)) (HS.out) hown' hgrow (by simpa using hblk))
          have KG := Lib.hid (grown_keep (HK.out.alloc _) hgrow (fun c hc => by have := (World.ownsRow.lt S2.out c hc).1; omega))
          clear hgrow hown' hblk
          go_wp2_with fail
          go_ret2
          exact ⟨OpsR.ok HR.out OG.out, KG.out⟩
end Go.Proofs.YtcdepfdfemmfhaaGreatDoor
