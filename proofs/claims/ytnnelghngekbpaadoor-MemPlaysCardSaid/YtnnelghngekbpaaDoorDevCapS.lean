/- StoreCap. -/
import Derived.Test.YtnnelghngekbpaaDoorDevCap
namespace Go.Proofs.YtnnelghngekbpaaDoor
set_option linter.unusedVariables false
set_option linter.unusedSimpArgs false
open Go.RowKit Go.Deep
variable {w : World} {m : Nat} {O : Nat → Prop} {bs : List Int} {ts : List Bool}
/-- Bytes copied. -/
theorem DM.setbs {p gb gt cb ct : Nat} {ts : List Bool} (xs : List Int) : ∀ (bs : List Int) (A : Nat) (w : World), (∀ z ∈ xs, IsByte z) → A + xs.length ≤ bs.length → DM w p gb gt cb ct bs ts → DM (w.setCells gb A (xs.map (Value.int .u8))) p gb gt cb ct (putAt bs A xs) ts := by
  induction xs with
  | nil => intro bs A w _ _ h; exact h
  | cons x xs ih =>
    intro bs A w hx hl h
    simp only [List.length_cons] at hl
    exact ih (bs.set A x) (A + 1) _ (fun z hz => hx z (by simp [hz])) (by rw [List.length_set]; omega) (h.setb A x (hx x (by simp)) (by omega))
theorem KeepBut.setCells {S : Nat → Prop} {b : Nat} (hb : S b) (vs : List Value) : ∀ (A : Nat) (w w' : World), KeepBut S w w' → KeepBut S w (w'.setCells b A vs) := by
  induction vs with
  | nil => intro A w w' h; exact h
  | cons v vs ih => intro A w w' h; exact ih (A + 1) w _ (h.setCell (.inl hb) v)
theorem Box.setCells {b c : Nat} {us : Array Value} (hb : c ≠ b) (vs : List Value) : ∀ (A : Nat) (w : World), Box w c us → Box (w.setCells b A vs) c us := by
  induction vs with
  | nil => intro A w h; exact h
  | cons v vs ih => intro A w h; exact ih (A + 1) _ (h.other hb v)
set_option maxRecDepth 100000 in
set_option maxHeartbeats 1000000 in
theorem dstoreCap_bad (a : Int) (ha : In64 a) (t : Bool) (b' p' a' m' y' : Int) (h : DMem w m O bs ts) (hE : ErrT w) (hg : ¬ (reachB a 16 bs.length = true ∧ a % 16 = 0)) :
    Calls Tryd.prog 13 #[ptrV m, .int .i64 a, .agg #[.bool t, .int .u32 b', .int .u32 p', .int .u32 a', .int .u16 m', .int .u16 y']] w fun e w' => ∃ u, e = .returned u ∧ ErrV w' u (granV bs.length a) ∧ Keep w w' := by
  obtain ⟨gb, gt, cb, ct, hr, rfl⟩ := h
  unfold ptrV
  have C := Lib.hid (fun W (k : Keep w W) => begins_any a ha W (hr.keep k) (hE.keep k))
  have hn : granV bs.length a ≠ okV := by
    unfold granV
    by_cases q1 : reachB a 16 bs.length = true
    · rw [if_pos q1, if_neg (fun q2 => hg ⟨q1, q2⟩)]
      exact fun h => absurd (okV_wrong h.symm) (by decide)
    · rw [if_neg q1]
      exact fun h => absurd (okV_wrong h.symm) (by decide)
  obtain ⟨gv, hgv⟩ : ∃ gv, gv = granV bs.length a := ⟨_, rfl⟩
  rw [← hgv] at C hn ⊢
  have HN := Lib.hid hn
  clear hr hE hg hn hgv
  go_enter Tryd.func13, Tryd.ntmps13
  go_wp2_with fail
  refine (C.out _ ((Keep.refl _).alloc _)).mono ?_
  rintro e w1 ⟨v1, rfl, hv1, hk1⟩
  obtain ⟨q, rfl⟩ := hv1.fault HN.out
  have V1 := Lib.hid hv1
  have K1 := Lib.hid (((Keep.refl w).alloc _).trans hk1)
  clear hv1 hk1
  unfold faultP
  go_wp2_with fail
  go_ret
  exact ⟨_, rfl, V1.out, K1.out⟩
set_option maxRecDepth 100000 in
set_option maxHeartbeats 4000000 in
theorem dstoreCap_good (A : Nat) (hA : A + 16 ≤ bs.length) (hm : A % 16 = 0) (t : Bool) (b' p' a' m' y' : Int) (hb : 0 ≤ b' ∧ b' ≤ 4294967295) (hp : 0 ≤ p' ∧ p' ≤ 4294967295) (haa : 0 ≤ a' ∧ a' ≤ 4294967295) (hmm : 0 ≤ m' ∧ m' ≤ 65535) (hy : 0 ≤ y' ∧ y' ≤ 65535) (h : DMem w m O bs ts) (hE : ErrT w) :
    Calls Tryd.prog 13 #[ptrV m, .int .i64 A, .agg #[.bool t, .int .u32 b', .int .u32 p', .int .u32 a', .int .u16 m', .int .u16 y']] w fun e w' => e = .returned .nilIface ∧ DMem w' m O (putAt bs A (putL b' p' a' m' y')) (ts.set (A / 16) t) ∧ KeepBut O w w' := by
  have hM := h.most
  have hlen := h.len
  obtain ⟨gb, gt, cb, ct, hr, rfl⟩ := h
  obtain ⟨c1, c2⟩ := hr.capb
  obtain ⟨c3, c4⟩ := hr.capt
  unfold ptrV
  have C := Lib.hid (fun W (k : Keep w W) => begins_any (A : Int) (by unfold In64; omega) W (hr.keep k) (hE.keep k))
  have e1 : granV bs.length (A : Int) = okV := by unfold granV; rw [if_pos (by simp [reachB]; omega), if_pos (by omega)]
  rw [e1] at C
  obtain ⟨z0, z1, z2, z3, z4, z5, z6, z7, z8, z9, z10, z11, z12, z13, z14, z15, hz⟩ := list16 (putL b' p' a' m' y') (putL_length _ _ _ _ _)
  have HZB : Hid (∀ z ∈ putL b' p' a' m' y', IsByte z) := Lib.hid (putL_bytes b' p' a' m' y')
  have HP := Lib.hid (fun W => put_at t b' p' a' m' y' z0 z1 z2 z3 z4 z5 z6 z7 z8 z9 z10 z11 z12 z13 z14 z15 hb hp haa hmm hy hz W)
  rw [hz] at HZB ⊢
  have at0 : (0 : Int) ≤ (A : Int) / 16 := by omega
  have at1 : (A : Int) / 16 < (ts.length : Int) := by omega
  have at2 : ((A : Int) / 16).toNat = A / 16 := by omega
  have a0 : (0 : Int) ≤ (A : Int) := Int.natCast_nonneg _
  have hw2 : IntKind.i64.wrap ((A : Int) / 16) = (A : Int) / 16 := by rw [IntKind.wrap_i64]; omega
  have hc16 : ¬ cb = A := by omega
  have hLA : A ≤ bs.length := by omega
  have HL : Hid (A / 16 < ts.length) := Lib.hid (by omega)
  obtain ⟨L, hL⟩ : ∃ L, L = bs.length := ⟨_, rfl⟩
  obtain ⟨T, hT⟩ : ∃ T, T = ts.length := ⟨_, rfl⟩
  have HBX := hr.box
  have npb := hr.pb
  have npt := hr.pt
  rw [← hL, ← hT] at HBX
  rw [← hL] at hLA hA
  rw [← hT] at at1
  have HLe := Lib.hid hL
  have HTe := Lib.hid hT
  have HBX := Lib.hid HBX
  have NP : Hid (m ≠ gb ∧ m ≠ gt) := Lib.hid ⟨npb, npt⟩
  have HA16 := Lib.hid hA
  have HD := Lib.hid hr
  have lp := hr.box.lt
  have lb := hr.ltb
  have lt_ := hr.ltt
  clear hr hE e1 hz hL hT npb npt hlen hM hb hp haa hmm hy hm hA
  go_enter Tryd.func13, Tryd.ntmps13
  go_wp2_with fail
  refine (C.out _ ((Keep.refl _).alloc _)).mono ?_
  rintro e w1 ⟨v1, rfl, hv1, hk1⟩
  obtain rfl := hv1.ok
  have B0 : Box w1 w.heap.size _ := (Box.new _ _ _).keep hk1
  have b0 := B0.cells
  have l0 := B0.lt
  have K1 := Lib.hid (((Keep.refl w).alloc _).trans hk1)
  clear hv1 hk1
  go_wp2_with fail
  refine (HP.out _).mono ?_
  rintro e w2 ⟨rfl, hk2⟩
  have B2 := B0.keep hk2
  have K2 := Lib.hid (K1.out.trans hk2)
  have s2 := K2.out.size
  clear hk2 K1 b0 l0 B0
  go_wp2_with fail
  have W5e : ∃ W5, W5 = w2.alloc (.cells #[.int .u8 z0, .int .u8 z1, .int .u8 z2, .int .u8 z3, .int .u8 z4, .int .u8 z5, .int .u8 z6, .int .u8 z7, .int .u8 z8, .int .u8 z9, .int .u8 z10, .int .u8 z11, .int .u8 z12, .int .u8 z13, .int .u8 z14, .int .u8 z15] 85) := ⟨_, rfl⟩
  obtain ⟨W5, hW5⟩ := W5e
  rw [← hW5]
  have B8 : Box W5 w2.heap.size #[.int .u8 z0, .int .u8 z1, .int .u8 z2, .int .u8 z3, .int .u8 z4, .int .u8 z5, .int .u8 z6, .int .u8 z7, .int .u8 z8, .int .u8 z9, .int .u8 z10, .int .u8 z11, .int .u8 z12, .int .u8 z13, .int .u8 z14, .int .u8 z15] := by rw [hW5]; exact Box.new _ _ _
  have B5 : Box W5 w.heap.size #[.bool t, .int .u32 b', .int .u32 p', .int .u32 a', .int .u16 m', .int .u16 y'] := by rw [hW5]; exact B2.alloc _
  have K5 : Keep w W5 := by rw [hW5]; exact K2.out.alloc _
  have D5 := HD.out.keep K5
  have X5 := HBX.out.keep K5
  have B8 := Lib.hid B8
  have B5 := Lib.hid B5
  have K5 := Lib.hid K5
  have D5 := Lib.hid D5
  have X5 := Lib.hid X5
  clear hW5 B2 K2
  have HCP : Hid (∀ W ty, Keep W5 W → (Builtin.copy_ #[35, 35] ty #[.slice (some ⟨gb, A, none⟩) (L - A) (cb - A), .slice (some ⟨w2.heap.size, 0, none⟩) 16 16]).run Tryd.prog W = .ok (.int .i64 16) (W.setCells gb A ([z0, z1, z2, z3, z4, z5, z6, z7, z8, z9, z10, z11, z12, z13, z14, z15].map (Value.int .u8)))) := Lib.hid (fun W ty hk => by
    refine run_copy_cells W 35 35 ty 5 gb A (L - A) (cb - A) ⟨w2.heap.size, 0, none⟩ 16 16 ([z0, z1, z2, z3, z4, z5, z6, z7, z8, z9, z10, z11, z12, z13, z14, z15].map (Value.int .u8)) Tryd.underlying35 (by kernel_rfl) (by have := HA16.out; exact (Nat.min_eq_left (show 16 ≤ L - A by omega)).symm) ?_ ?_ ?_ ?_
    · intro j v hj
      rw [Addr.add_lit, Nat.zero_add, (B8.out.keep hk).cells]
      rw [← hj]
      simp
    · intro j hj
      have hj16 : j < 16 := hj
      rw [(D5.out.keep hk).cell (by rw [← HLe.out]; have := HA16.out; omega)]
      rfl
    · intro j hj
      exact (D5.out.keep hk).thawb _
    · intro u hu
      obtain ⟨z, _, rfl⟩ := List.mem_map.1 hu
      rfl)
  refine Rel.regionO (KeepBut (ownsM gb gt)) ⟨fun k => k.but _, fun h k => h.trans k⟩ [7] [0, 1, 2, 3, 4, 5, 6, 7] (by kernel_rfl) (by kernel_rfl) (Keep.refl _) ?_
  repeat (apply Rel.ordK_step (by rfl) (by rfl) (by rfl)
          · intro W hW
            have XW := X5.out.but hW (fun h => h.elim NP.out.1 NP.out.2)
            have c0 := XW.cells
            have lW := XW.lt
            go_simp
            exact ⟨rfl, Keep.refl _⟩
          go_simp)
  apply Rel.ordK_loose (by rfl) (by rfl) (by rfl)
  intro W6 hW6
  have hcp := fun ty => HCP.out W6 ty hW6
  go_simp
  apply Rel.gives_value
  have KW : KeepBut (ownsM gb gt) W6 (W6.setCells gb A ([z0, z1, z2, z3, z4, z5, z6, z7, z8, z9, z10, z11, z12, z13, z14, z15].map (Value.int .u8))) := KeepBut.setCells (.inl rfl) _ _ _ _ (KeepBut.refl _ _)
  have D7 : DM (W6.setCells gb A ([z0, z1, z2, z3, z4, z5, z6, z7, z8, z9, z10, z11, z12, z13, z14, z15].map (Value.int .u8))) m gb gt cb ct (putAt bs A [z0, z1, z2, z3, z4, z5, z6, z7, z8, z9, z10, z11, z12, z13, z14, z15]) ts := DM.setbs _ _ _ _ HZB.out (by rw [← HLe.out]; exact HA16.out) (D5.out.keep hW6)
  have K7 := (((K5.out.trans hW6).but (ownsM gb gt)).trans KW)
  have N0 : ¬ ownsM gb gt w.heap.size := by rintro (h | h) <;> omega
  have B7 := (B5.out.keep hW6).but KW N0
  have X7 := (X5.out.keep hW6).but KW (fun h => h.elim NP.out.1 NP.out.2)
  refine ⟨KW, ?_⟩
  clear KW hcp HCP
  simp only [List.map_cons, List.map_nil] at D7 K7 B7 X7
  revert D7 K7 B7 X7
  generalize (W6.setCells gb A [.int .u8 z0, .int .u8 z1, .int .u8 z2, .int .u8 z3, .int .u8 z4, .int .u8 z5, .int .u8 z6, .int .u8 z7, .int .u8 z8, .int .u8 z9, .int .u8 z10, .int .u8 z11, .int .u8 z12, .int .u8 z13, .int .u8 z14, .int .u8 z15]) = W7
  intro D7 K7 B7 X7
  have D7 := Lib.hid D7
  have K7 := Lib.hid K7
  have B7 := Lib.hid B7
  have X7 := Lib.hid X7
  have N0 := Lib.hid N0
  clear hW6 D5 K5 B5 X5
  go_simp
  apply Rel.ordK_end
  intro W8 hW8
  have D8 := Lib.hid (D7.out.keep hW8)
  have K8 := Lib.hid (K7.out.trans (hW8.but _))
  have B8' := Lib.hid (B7.out.keep hW8)
  have X8 := Lib.hid (X7.out.keep hW8)
  clear hW8 D7 K7 B7 X7
  go_wp2_with fail
  refine Rel.regionO (KeepBut (ownsM gb gt)) ⟨fun k => k.but _, fun h k => h.trans k⟩ [9] [0, 1, 2, 3, 4, 5, 6, 7, 8, 9] (by kernel_rfl) (by kernel_rfl) (Keep.refl _) ?_
  repeat (apply Rel.ordK_step (by rfl) (by rfl) (by rfl)
          · intro W hW
            have XW := X8.out.but hW (fun h => h.elim NP.out.1 NP.out.2)
            have c0 := XW.cells
            have lW := XW.lt
            have BW := B8'.out.but hW N0.out
            have c1 := BW.cells
            have lB := BW.lt
            go_simp
            exact ⟨rfl, Keep.refl _⟩
          go_simp)
  apply Rel.ordK_loose (by rfl) (by rfl) (by rfl)
  intro W9 hW9
  have g2 := (D8.out.keep hW9).tag HL.out
  have gg := (D8.out.keep hW9).thawt
  go_simp
  first | apply Rel.gives_skip | apply Rel.gives_value
  have D10 := (D8.out.keep hW9).sett (A / 16) t HL.out
  refine ⟨(KeepBut.refl _ _).setCell (.inl (.inr rfl)) _, ?_⟩
  have K10 := (K8.out.trans (hW9.but _)).setCell (p := ⟨gt, A / 16, none⟩) (.inl (.inr rfl)) (.bool t)
  have D10 := Lib.hid D10
  have K10 := Lib.hid K10
  clear g2 gg hW9 D8 K8 B8' X8
  go_simp
  apply Rel.ordK_end
  intro W11 hW11
  go_wp2_with fail
  go_ret
  exact ⟨rfl, ⟨gb, gt, cb, ct, D10.out.keep hW11, rfl⟩, (K10.out.trans (hW11.but _)).mono (fun k _ hk => hk.elim (fun h => .inr (.inl h)) (fun h => .inr (.inr h)))⟩
theorem dstoreCap_any (a : Int) (ha : In64 a) (t : Bool) (b' p' a' m' y' : Int) (hb : 0 ≤ b' ∧ b' ≤ 4294967295) (hp : 0 ≤ p' ∧ p' ≤ 4294967295) (haa : 0 ≤ a' ∧ a' ≤ 4294967295) (hmm : 0 ≤ m' ∧ m' ≤ 65535) (hy : 0 ≤ y' ∧ y' ≤ 65535) (h : DMem w m O bs ts) (hE : ErrT w) :
    Calls Tryd.prog 13 #[ptrV m, .int .i64 a, .agg #[.bool t, .int .u32 b', .int .u32 p', .int .u32 a', .int .u16 m', .int .u16 y']] w fun e w' => ∃ u, e = .returned u ∧
      ((¬ (reachB a 16 bs.length = true ∧ a % 16 = 0) ∧ ErrV w' u (granV bs.length a) ∧ Keep w w') ∨
       ((reachB a 16 bs.length = true ∧ a % 16 = 0) ∧ u = .nilIface ∧ DMem w' m O (putAt bs a.toNat (putL b' p' a' m' y')) (ts.set (a.toNat / 16) t) ∧ KeepBut O w w')) := by
  by_cases hg : reachB a 16 bs.length = true ∧ a % 16 = 0
  · obtain ⟨r0, _, r2⟩ := reachB_true hg.1
    obtain ⟨A, rfl⟩ := Int.eq_ofNat_of_zero_le r0
    refine (dstoreCap_good A (by omega) (by omega) t b' p' a' m' y' hb hp haa hmm hy h hE).mono ?_
    rintro e w' ⟨rfl, h1, h2⟩
    exact ⟨_, rfl, .inr ⟨hg, rfl, h1, h2⟩⟩
  · refine (dstoreCap_bad a ha t b' p' a' m' y' h hE hg).mono ?_
    rintro e w' ⟨u, rfl, h1, h2⟩
    exact ⟨_, rfl, .inl ⟨hg, h1, h2⟩⟩
end Go.Proofs.YtnnelghngekbpaaDoor
