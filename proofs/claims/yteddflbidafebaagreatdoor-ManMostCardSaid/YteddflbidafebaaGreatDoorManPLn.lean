/- The program's line, from each kind on, whatever its words are. -/
import Derived.Test.YteddflbidafebaaGreatDoorManPLnA
import Derived.Test.YteddflbidafebaaGreatDoorManPLnB
import Derived.Test.YteddflbidafebaaGreatDoorManPLnC
import Derived.Test.YteddflbidafebaaGreatDoorManPLnD
import Derived.Test.YteddflbidafebaaGreatDoorManPLnE
import Derived.Test.YteddflbidafebaaGreatDoorManPLnF
import Derived.Test.YteddflbidafebaaGreatDoorManPLnG
namespace Go.Proofs.YteddflbidafebaaGreatDoor
set_option linter.unusedVariables false
set_option linter.unusedSimpArgs false
open Go.RowKit
theorem mline_G (s : ByteArray) (w : World) (r : Nat) (m : ManV) (vc vi vs vg : Value) (h : RdM w r m ⟨#[103, 114, 97, 110, 116]⟩ vc vi vs vg) (hR : RngV w) (hM : MaxL w) (hL : LowS (RdS r vc vi vs vg)) (hm : ManBig m)
    (fG : OptW) (cwG : ∀ W, KeepBut (RdS r vc vi vs vg) w W → MaxL W → Calls Tryz.prog 33 #[.string s, .string ⟨#[103, 114, 97, 110, 116]⟩, .int .i64 3] W fun e w' => WordsR W 3 e w' fG) (hfG : ∀ ws, fG = some ws → ws.length = 3 ∧ ∀ x ∈ ws, x.length ≤ 5000)
    (fT : OptW) (cwT : ∀ W, KeepBut (RdS r vc vi vs vg) w W → MaxL W → Calls Tryz.prog 33 #[.string s, .string ⟨#[115, 116, 97, 114, 116]⟩, .int .i64 2] W fun e w' => WordsR W 2 e w' fT) (hfT : ∀ ws, fT = some ws → ws.length = 2 ∧ ∀ x ∈ ws, x.length ≤ 5000) :
    Calls Tryz.prog 13 #[.pointer (some ⟨r, 0, none⟩), .string s] w (LineR w r (RdS r vc vi vs vg) (outG fG fT m)) := by
  rcases fG with _ | ws
  rotate_left
  · obtain ⟨hlen, hxl⟩ := hfG ws rfl
    match ws, hlen with
    | [a, b, c], _ => exact mline_G_G s w r m vc vi vs vg h hR hM hL hm  a b c (hxl c (by simp)) cwG
  rcases fT with _ | ws
  rotate_left
  · obtain ⟨hlen, hxl⟩ := hfT ws rfl
    match ws, hlen with
    | [a, b], _ => exact mline_G_T s w r m vc vi vs vg h hR hM hL hm cwG a b (hxl b (by simp)) cwT
  exact mline_G_N s w r m vc vi vs vg h hR hM hL hm cwG cwT
theorem mline_S (s : ByteArray) (w : World) (r : Nat) (m : ManV) (vc vi vs vg : Value) (h : RdM w r m ⟨#[115, 104, 97, 114, 101]⟩ vc vi vs vg) (hR : RngV w) (hM : MaxL w) (hL : LowS (RdS r vc vi vs vg)) (hm : ManBig m)
    (fS : OptW) (cwS : ∀ W, KeepBut (RdS r vc vi vs vg) w W → MaxL W → Calls Tryz.prog 33 #[.string s, .string ⟨#[115, 104, 97, 114, 101]⟩, .int .i64 2] W fun e w' => WordsR W 2 e w' fS) (hfS : ∀ ws, fS = some ws → ws.length = 2 ∧ ∀ x ∈ ws, x.length ≤ 5000)
    (fG : OptW) (cwG : ∀ W, KeepBut (RdS r vc vi vs vg) w W → MaxL W → Calls Tryz.prog 33 #[.string s, .string ⟨#[103, 114, 97, 110, 116]⟩, .int .i64 3] W fun e w' => WordsR W 3 e w' fG) (hfG : ∀ ws, fG = some ws → ws.length = 3 ∧ ∀ x ∈ ws, x.length ≤ 5000)
    (fT : OptW) (cwT : ∀ W, KeepBut (RdS r vc vi vs vg) w W → MaxL W → Calls Tryz.prog 33 #[.string s, .string ⟨#[115, 116, 97, 114, 116]⟩, .int .i64 2] W fun e w' => WordsR W 2 e w' fT) (hfT : ∀ ws, fT = some ws → ws.length = 2 ∧ ∀ x ∈ ws, x.length ≤ 5000) :
    Calls Tryz.prog 13 #[.pointer (some ⟨r, 0, none⟩), .string s] w (LineR w r (RdS r vc vi vs vg) (outS fS fG fT m)) := by
  rcases fS with _ | ws
  rotate_left
  · obtain ⟨hlen, hxl⟩ := hfS ws rfl
    match ws, hlen with
    | [a, b], _ => exact mline_S_S s w r m vc vi vs vg h hR hM hL hm  a b (hxl b (by simp)) cwS
  rcases fG with _ | ws
  rotate_left
  · obtain ⟨hlen, hxl⟩ := hfG ws rfl
    match ws, hlen with
    | [a, b, c], _ => exact mline_S_G s w r m vc vi vs vg h hR hM hL hm cwS a b c (hxl c (by simp)) cwG
  rcases fT with _ | ws
  rotate_left
  · obtain ⟨hlen, hxl⟩ := hfT ws rfl
    match ws, hlen with
    | [a, b], _ => exact mline_S_T s w r m vc vi vs vg h hR hM hL hm cwS cwG a b (hxl b (by simp)) cwT
  exact mline_S_N s w r m vc vi vs vg h hR hM hL hm cwS cwG cwT
theorem mline_I (s : ByteArray) (w : World) (r : Nat) (m : ManV) (vc vi vs vg : Value) (h : RdM w r m ⟨#[105, 109, 112, 111, 114, 116]⟩ vc vi vs vg) (hR : RngV w) (hM : MaxL w) (hL : LowS (RdS r vc vi vs vg)) (hm : ManBig m)
    (fI : OptW) (cwI : ∀ W, KeepBut (RdS r vc vi vs vg) w W → MaxL W → Calls Tryz.prog 33 #[.string s, .string ⟨#[105, 109, 112, 111, 114, 116]⟩, .int .i64 3] W fun e w' => WordsR W 3 e w' fI) (hfI : ∀ ws, fI = some ws → ws.length = 3 ∧ ∀ x ∈ ws, x.length ≤ 5000)
    (fS : OptW) (cwS : ∀ W, KeepBut (RdS r vc vi vs vg) w W → MaxL W → Calls Tryz.prog 33 #[.string s, .string ⟨#[115, 104, 97, 114, 101]⟩, .int .i64 2] W fun e w' => WordsR W 2 e w' fS) (hfS : ∀ ws, fS = some ws → ws.length = 2 ∧ ∀ x ∈ ws, x.length ≤ 5000)
    (fG : OptW) (cwG : ∀ W, KeepBut (RdS r vc vi vs vg) w W → MaxL W → Calls Tryz.prog 33 #[.string s, .string ⟨#[103, 114, 97, 110, 116]⟩, .int .i64 3] W fun e w' => WordsR W 3 e w' fG) (hfG : ∀ ws, fG = some ws → ws.length = 3 ∧ ∀ x ∈ ws, x.length ≤ 5000)
    (fT : OptW) (cwT : ∀ W, KeepBut (RdS r vc vi vs vg) w W → MaxL W → Calls Tryz.prog 33 #[.string s, .string ⟨#[115, 116, 97, 114, 116]⟩, .int .i64 2] W fun e w' => WordsR W 2 e w' fT) (hfT : ∀ ws, fT = some ws → ws.length = 2 ∧ ∀ x ∈ ws, x.length ≤ 5000) :
    Calls Tryz.prog 13 #[.pointer (some ⟨r, 0, none⟩), .string s] w (LineR w r (RdS r vc vi vs vg) (outI fI fS fG fT m)) := by
  rcases fI with _ | ws
  rotate_left
  · obtain ⟨hlen, hxl⟩ := hfI ws rfl
    match ws, hlen with
    | [a, b, c], _ => exact mline_I_I s w r m vc vi vs vg h hR hM hL hm  a b c (hxl c (by simp)) cwI
  rcases fS with _ | ws
  rotate_left
  · obtain ⟨hlen, hxl⟩ := hfS ws rfl
    match ws, hlen with
    | [a, b], _ => exact mline_I_S s w r m vc vi vs vg h hR hM hL hm cwI a b (hxl b (by simp)) cwS
  rcases fG with _ | ws
  rotate_left
  · obtain ⟨hlen, hxl⟩ := hfG ws rfl
    match ws, hlen with
    | [a, b, c], _ => exact mline_I_G s w r m vc vi vs vg h hR hM hL hm cwI cwS a b c (hxl c (by simp)) cwG
  rcases fT with _ | ws
  rotate_left
  · obtain ⟨hlen, hxl⟩ := hfT ws rfl
    match ws, hlen with
    | [a, b], _ => exact mline_I_T s w r m vc vi vs vg h hR hM hL hm cwI cwS cwG a b (hxl b (by simp)) cwT
  exact mline_I_N s w r m vc vi vs vg h hR hM hL hm cwI cwS cwG cwT
theorem mline_C (s : ByteArray) (w : World) (r : Nat) (m : ManV) (vc vi vs vg : Value) (h : RdM w r m ⟨#[99, 111, 109, 112]⟩ vc vi vs vg) (hR : RngV w) (hM : MaxL w) (hL : LowS (RdS r vc vi vs vg)) (hm : ManBig m)
    (fC : OptW) (cwC : ∀ W, KeepBut (RdS r vc vi vs vg) w W → MaxL W → Calls Tryz.prog 33 #[.string s, .string ⟨#[99, 111, 109, 112]⟩, .int .i64 2] W fun e w' => WordsR W 2 e w' fC) (hfC : ∀ ws, fC = some ws → ws.length = 2 ∧ ∀ x ∈ ws, x.length ≤ 5000)
    (fI : OptW) (cwI : ∀ W, KeepBut (RdS r vc vi vs vg) w W → MaxL W → Calls Tryz.prog 33 #[.string s, .string ⟨#[105, 109, 112, 111, 114, 116]⟩, .int .i64 3] W fun e w' => WordsR W 3 e w' fI) (hfI : ∀ ws, fI = some ws → ws.length = 3 ∧ ∀ x ∈ ws, x.length ≤ 5000)
    (fS : OptW) (cwS : ∀ W, KeepBut (RdS r vc vi vs vg) w W → MaxL W → Calls Tryz.prog 33 #[.string s, .string ⟨#[115, 104, 97, 114, 101]⟩, .int .i64 2] W fun e w' => WordsR W 2 e w' fS) (hfS : ∀ ws, fS = some ws → ws.length = 2 ∧ ∀ x ∈ ws, x.length ≤ 5000)
    (fG : OptW) (cwG : ∀ W, KeepBut (RdS r vc vi vs vg) w W → MaxL W → Calls Tryz.prog 33 #[.string s, .string ⟨#[103, 114, 97, 110, 116]⟩, .int .i64 3] W fun e w' => WordsR W 3 e w' fG) (hfG : ∀ ws, fG = some ws → ws.length = 3 ∧ ∀ x ∈ ws, x.length ≤ 5000)
    (fT : OptW) (cwT : ∀ W, KeepBut (RdS r vc vi vs vg) w W → MaxL W → Calls Tryz.prog 33 #[.string s, .string ⟨#[115, 116, 97, 114, 116]⟩, .int .i64 2] W fun e w' => WordsR W 2 e w' fT) (hfT : ∀ ws, fT = some ws → ws.length = 2 ∧ ∀ x ∈ ws, x.length ≤ 5000) :
    Calls Tryz.prog 13 #[.pointer (some ⟨r, 0, none⟩), .string s] w (LineR w r (RdS r vc vi vs vg) (outC fC fI fS fG fT m)) := by
  rcases fC with _ | ws
  rotate_left
  · obtain ⟨hlen, hxl⟩ := hfC ws rfl
    match ws, hlen with
    | [a, b], _ => exact mline_C_C s w r m vc vi vs vg h hR hM hL hm  a b (hxl b (by simp)) cwC
  rcases fI with _ | ws
  rotate_left
  · obtain ⟨hlen, hxl⟩ := hfI ws rfl
    match ws, hlen with
    | [a, b, c], _ => exact mline_C_I s w r m vc vi vs vg h hR hM hL hm cwC a b c (hxl c (by simp)) cwI
  rcases fS with _ | ws
  rotate_left
  · obtain ⟨hlen, hxl⟩ := hfS ws rfl
    match ws, hlen with
    | [a, b], _ => exact mline_C_S s w r m vc vi vs vg h hR hM hL hm cwC cwI a b (hxl b (by simp)) cwS
  rcases fG with _ | ws
  rotate_left
  · obtain ⟨hlen, hxl⟩ := hfG ws rfl
    match ws, hlen with
    | [a, b, c], _ => exact mline_C_G s w r m vc vi vs vg h hR hM hL hm cwC cwI cwS a b c (hxl c (by simp)) cwG
  rcases fT with _ | ws
  rotate_left
  · obtain ⟨hlen, hxl⟩ := hfT ws rfl
    match ws, hlen with
    | [a, b], _ => exact mline_C_T s w r m vc vi vs vg h hR hM hL hm cwC cwI cwS cwG a b (hxl b (by simp)) cwT
  exact mline_C_N s w r m vc vi vs vg h hR hM hL hm cwC cwI cwS cwG cwT
set_option maxHeartbeats 8000000 in
set_option maxRecDepth 100000 in
theorem mline_none (s : ByteArray) (w : World) (r : Nat) (m : ManV) (vc vi vs vg : Value) (h : RdM w r m ⟨#[]⟩ vc vi vs vg) :
    Calls Tryz.prog 13 #[.pointer (some ⟨r, 0, none⟩), .string s] w (LineR w r (RdS r vc vi vs vg) (.error 11)) := by
  have cr := (RdG.bx h).cells
  unfold rdBox at cr
  clear h
  go_enter Tryz.func13, Tryz.ntmps13
  go_wp2_with fail
  go_ret
  exact LineR.err rfl (by decide) (KeepBut.refl _ _)
end Go.Proofs.YteddflbidafebaaGreatDoor
