/-
  5 texts in one.
-/
import Derived.Test.YtiknnobgoamgcaaGreatDoorB19
import Derived.Lib.IndexLaws
import Derived.Laws.Runes
import Derived.BigQuiet
import Derived.WalkMore
import Derived.Test.YtiknnobgoamgcaaGreatDoorB02
import Derived.Test.YtiknnobgoamgcaaGreatDoorB01
import Derived.Test.YtiknnobgoamgcaaGreatDoorB18
import Derived.LoopTactic
import Derived.Test.YtiknnobgoamgcaaGreatDoorB07
import Derived.Deep.DeepCutAuto
import Derived.Deep.RegionHeld
import Derived.Deep.LoopGhost
/-
  What package scan calls of Go's library: strings.Cut at a newline, strings.IndexRune beyond ASCII, strings.IndexAny at a quote or a newline.
-/
namespace Go.Proofs.YtiknnobgoamgcaaGreatDoor
open Go.RowKit
set_option linter.unusedSimpArgs false
set_option linter.unusedVariables false
theorem nlN_eq {s : ByteArray} : ∀ (d a k : Nat), k = a + d → k ≤ s.size → (∀ i, a ≤ i → i < k → byteAt s i ≠ 10) → (k = s.size ∨ byteAt s k = 10) → nlN s a = k := by
 intro d
 induction d with
 | zero =>
  intro a k h hk _ he
  obtain rfl : k = a := h
  rcases he with he | he
  ·
   rw [nlN_end (by omega)]
  ·
   rw [nlN_stop he]
 | succ d ih =>
  intro a k h hk hn he
  rw [nlN_step (by omega) (hn a (Nat.le_refl _) (by omega))]
  exact ih (a + 1) k (by omega) hk (fun i h1 h2 => hn i (by omega) h2) he
theorem qF_char (s : ByteArray) : ∀ (f a : Nat), a + f = s.size → (∀ i, a ≤ i → i < qF s f a → byteAt s i ≠ 34 ∧ byteAt s i ≠ 10) ∧ qF s f a ≤ s.size ∧ (qF s f a < s.size → byteAt s (qF s f a) = 34 ∨ byteAt s (qF s f a) = 10) := by
 intro f
 induction f with
 | zero => intro a h; simp only [qF]; exact ⟨fun i h1 h2 => absurd h1 (by omega), by omega, fun h => absurd h (by omega)⟩
 | succ f ih =>
  intro a h
  rw [qF]
  split
  ·
   rename_i hc
   obtain ⟨i1, i2, i3⟩ := ih (a + 1) (by omega)
   refine ⟨fun i h1 h2 => ?_, i2, i3⟩
   by_cases e : i = a
   ·
    subst e; exact hc.2
   ·
    exact i1 i (by omega) h2
  ·
   rename_i hc
   refine ⟨fun i h1 h2 => absurd h1 (by omega), by omega, fun h => ?_⟩
   by_cases e : byteAt s a = 34
   ·
    exact .inl e
   ·
    by_cases e' : byteAt s a = 10
    ·
     exact .inr e'
    ·
     exact absurd ⟨h, e, e'⟩ hc
theorem qN_char (s : ByteArray) (a : Nat) (h : a ≤ s.size) : (∀ i, a ≤ i → i < qN s a → byteAt s i ≠ 34 ∧ byteAt s i ≠ 10) ∧ qN s a ≤ s.size ∧ (qN s a < s.size → byteAt s (qN s a) = 34 ∨ byteAt s (qN s a) = 10) := qF_char s _ a (by omega)
theorem byte_list (s : ByteArray) (i : Nat) (b : UInt8) (h : s.data.toList[i]? = some b) : i < s.size ∧ byteAt s i = b.toNat := by
 rw [Array.getElem?_toList] at h
 refine ⟨(Array.getElem?_eq_some_iff.1 h).1, ?_⟩
 rw [byteAt_eq, h]; rfl
theorem list_byte (s : ByteArray) (i : Nat) (h : i < s.size) : s.data.toList[i]? = some (s.data[i]'h) ∧ (s.data[i]'h).toNat = byteAt s i := by
 refine ⟨by rw [Array.getElem?_toList]; exact Array.getElem?_eq_getElem h, ?_⟩
 rw [byteAt_eq, Array.getElem?_eq_getElem h]; rfl
theorem indexByte_nl (s : ByteArray) : (Lib.indexByte s.data.toList 10 = -1 ∧ nlN s 0 = s.size) ∨ (Lib.indexByte s.data.toList 10 = nlN s 0 ∧ nlN s 0 < s.size) := by
 have hge := Lib.indexByte_ge s.data.toList 10
 by_cases h : Lib.indexByte s.data.toList 10 = -1
 ·
  left
  refine ⟨h, nlN_eq s.size 0 s.size (by omega) (Nat.le_refl _) (fun i _ h2 hb => ?_) (.inl rfl)⟩
  obtain ⟨e1, e2⟩ := list_byte s i h2
  have := Lib.indexByte_none h i
  rw [e1] at this
  rw [hb] at e2
  exact this (congrArg some (UInt8.toNat_inj.1 e2))
 ·
  right
  obtain ⟨o, ho⟩ : ∃ o : Nat, Lib.indexByte s.data.toList 10 = o := ⟨(Lib.indexByte s.data.toList 10).toNat, by omega⟩
  obtain ⟨h1, h2⟩ := Lib.indexByte_some ho
  obtain ⟨hlt, hb⟩ := byte_list s o 10 h1
  have hn : nlN s 0 = o := nlN_eq o 0 o (by omega) (by omega) (fun i _ hi hb => by
   obtain ⟨e1, e2⟩ := list_byte s i (by omega)
   have := h2 i hi
   rw [e1] at this
   rw [hb] at e2
   exact this (congrArg some (UInt8.toNat_inj.1 e2))) (.inr hb)
  rw [ho, hn]
  exact ⟨rfl, hlt⟩
set_option maxHeartbeats 1000000 in
set_option maxRecDepth 100000 in
theorem lCut_any (s : ByteArray) (w : World) (hs : s.size ≤ 1000000) :
  Calls Tryz.prog 117 #[.string s, .string ⟨#[10]⟩] w fun e w' => ∃ a f, e = .returned (.tuple #[.string (s.extract 0 (nlN s 0)), .string a, .bool f]) ∧ Below w.heap.size w w' := by
 have HI := fun w => Tryz.stringslite_Index_one s 10 w
 have hsz : (⟨#[10]⟩ : ByteArray).size = 1 := rfl
 rcases indexByte_nl s with ⟨h1, h2⟩ | ⟨h1, h2⟩
 ·
  rw [h1] at HI
  rw [h2, ByteArray.extract_zero_size]
  clear h1 h2
  replace HI := zH HI
  go_enter Tryz.func117, Tryz.ntmps117
  go_wp2_with fail
  refine (uH HI _).mono ?_
  rintro e W ⟨rfl, rfl⟩
  go_wp2
  go_ret3
  exact ⟨_, _, rfl, Below.refl _ _⟩
 ·
  rw [h1] at HI
  generalize nlN s 0 = k at *
  clear h1
  replace HI := zH HI
  go_enter Tryz.func117, Tryz.ntmps117
  go_wp2_with fail
  refine (uH HI _).mono ?_
  rintro e W ⟨rfl, rfl⟩
  go_wp2
  go_quiet (fail)
  go_wp2
  go_ret3
  exact ⟨_, _, rfl, ⟨rfl, rfl, rfl, Nat.le_refl _, fun _ _ => rfl⟩⟩
set_option maxHeartbeats 1000000 in
set_option maxRecDepth 100000 in
theorem sCut_any (s : ByteArray) (w : World) (hs : s.size ≤ 1000000) :
  Calls Tryz.prog 98 #[.string s, .string ⟨#[10]⟩] w fun e w' => ∃ a f, e = .returned (.tuple #[.string (s.extract 0 (nlN s 0)), .string a, .bool f]) ∧ Below w.heap.size w w' := by
 have H := zH (lCut_any s w hs)
 generalize s.extract 0 (nlN s 0) = t at *
 go_enter Tryz.func98, Tryz.ntmps98
 go_wp2_with fail
 refine (uH H).mono ?_
 rintro e W ⟨a, f, rfl, hb⟩
 go_wp2
 go_ret3
 exact ⟨a, f, rfl, hb⟩
end Go.Proofs.YtiknnobgoamgcaaGreatDoor
namespace Go.Proofs.YtiknnobgoamgcaaGreatDoor
open Go.RowKit
set_option linter.unusedSimpArgs false
set_option linter.unusedVariables false
set_option maxHeartbeats 4000000 in
set_option maxRecDepth 100000 in
/-- A rune beyond ASCII is neither. -/
theorem sIndexRune_rep (w : World) :
  Calls Tryz.prog 149 #[.string ⟨#[34, 10]⟩, .int .i32 65533] w fun e w' => e = .returned (.int .i64 (-1)) ∧ Below w.heap.size w w' := by
 have hsz : (⟨#[34, 10]⟩ : ByteArray).size = 2 := rfl
 have hd0 : Utf8.decode ⟨#[34, 10]⟩ 0 = (34, 1) := by decide
 have hd1 : Utf8.decode ⟨#[34, 10]⟩ 1 = (10, 1) := by decide
 go_enter Tryz.func149, Tryz.ntmps149
 go_wp2
 go_loopg [5, 6] 2 (fun gf s5 s6 wx => ∃ pos : Nat, wx.heap[w.heap.size]? = some (.stringIter ⟨#[34, 10]⟩ pos) ∧ Below w.heap.size w wx ∧ pos + gf = 2)
 case atStart => exact ⟨0, World.iter_heap w _ 0, (Below.refl _ w).alloc (Nat.le_refl _) _, rfl⟩
 case round =>
  obtain ⟨pos, hit, hbw, hfu⟩ := hrel
  by_cases hps : pos < 2
  ·
   obtain ⟨g', rfl⟩ : ∃ g', gk = g' + 1 := ⟨gk - 1, by omega⟩
   have hnx : ∀ ty, (Instr.next (.pointer (some ⟨w.heap.size, 0, none⟩)) true ty).run Tryz.prog wr = _ := fun ty => Lib.run_next_any_at wr w.heap.size _ pos ty hit hps
   obtain ⟨R, hR⟩ : ∃ R, (Utf8.decode ⟨#[34, 10]⟩ pos).1 = R := ⟨_, rfl⟩
   have hK : (Utf8.decode ⟨#[34, 10]⟩ pos).2 = 1 := by
    obtain rfl | rfl : pos = 0 ∨ pos = 1 := by omega
    ·
     rw [hd0]
    ·
     rw [hd1]
   have hRl : R < 128 := by
    obtain rfl | rfl : pos = 0 ∨ pos = 1 := by omega
    ·
     rw [← hR, hd0]; decide
    ·
     rw [← hR, hd1]; decide
   rw [hR, hK] at hnx
   clear hR hK
   have hit2 := Lib.iterAt_heap wr w.heap.size _ pos (pos + 1) hit
   have hbw2 := Lib.below_iterAt hbw (k := w.heap.size) (Nat.le_refl _) ⟨#[34, 10]⟩ (pos + 1)
   obtain ⟨W, hWd⟩ : ∃ W, wr.iterAt w.heap.size ⟨#[34, 10]⟩ (pos + 1) = W := ⟨_, rfl⟩
   rw [hWd] at hnx hit2 hbw2
   clear hWd hit hbw
   have hne : ¬ (R : Int) = 65533 := by omega
   go_wp2
   go_roundg g'
   case measure => omega
   case rel => exact ⟨pos + 1, hit2, hbw2, by omega⟩
  ·
   have hnx : ∀ ty, (Instr.next (.pointer (some ⟨w.heap.size, 0, none⟩)) true ty).run Tryz.prog wr = _ := fun ty => Lib.run_next_end_at wr w.heap.size _ pos ty hit (by rw [hsz]; omega)
   go_wp2
   go_ret
   exact ⟨rfl, hbw⟩
set_option maxHeartbeats 4000000 in
set_option maxRecDepth 100000 in
theorem sIndexRune_high (r : Int) (w : World) (h0 : 128 ≤ r) (hv : Utf8.valid r = true) (hr : r ≠ 65533) :
  Calls Tryz.prog 149 #[.string ⟨#[34, 10]⟩, .int .i32 r] w fun e w' => e = .returned (.int .i64 (-1)) ∧ Below w.heap.size w w' := by
 have hsz : (⟨#[34, 10]⟩ : ByteArray).size = 2 := rfl
 obtain ⟨e1, e2, e3⟩ := encode_facts r hv h0
 have HV := fun w => Tryz.utf8_ValidRune r w
 have hvr : Lib.validRune r = true := by
  unfold Utf8.valid at hv
  unfold Lib.validRune
  simp only [Bool.or_eq_true, Bool.and_eq_true, decide_eq_true_eq] at hv ⊢
  omega
 rw [hvr] at HV
 clear hvr hv
 generalize hE : Utf8.encode r = E at *
 obtain ⟨n, hn⟩ : ∃ n, E.size = n + 1 := ⟨E.size - 1, by omega⟩
 have hlt : n < E.size := by omega
 have hb : 128 ≤ (E[n]'hlt).toNat := by
  have := e3 (by omega)
  simpa only [hn, Nat.add_sub_cancel] using this
 have hbl : (E[n]'hlt).toNat < 256 := UInt8.toNat_lt _
 obtain ⟨b, hbe⟩ : ∃ b, (E[n]'hlt).toNat = b := ⟨_, rfl⟩
 rw [hbe] at hb hbl
 have hix : ∀ h, (E[n]'h).toNat = b := fun _ => hbe
 clear hbe e3
 have HI := fun w => Tryz.strings_IndexByte ByteArray.empty b w
 rw [show Lib.indexByte ByteArray.empty.data.toList (b : Int).toNat.toUInt8 = -1 from rfl] at HI
 replace HV := zH HV
 replace HI := zH HI
 by_cases hn1 : n = 1
 ·
  subst hn1
  go_enter Tryz.func149, Tryz.ntmps149
  go_wp2_with fail
  refine (uH HV _).mono ?_
  rintro e W ⟨rfl, rfl⟩
  go_wp2
  go_step3
  go_wp2
  go_rounds 1
  go_step3
  have hcz : ∀ h, ((((⟨#[34, 10]⟩ : ByteArray)[1]'h).toNat : Int) != (b : Int)) = true := fun h => by
   rw [show (((⟨#[34, 10]⟩ : ByteArray)[1]'h).toNat) = 10 from rfl, bne_iff_ne]; omega
  have hw2 : IntKind.i64.wrap 2 = 2 := wrapI _ (by omega) (by omega)
  have hx2 : (⟨#[34, 10]⟩ : ByteArray).extract 2 2 = ⟨#[]⟩ := by rfl
  go_wp2
  go_quiet (fail)
  go_wp2
  have hbq := Joins.below_draws W.heap.size W nq
  generalize World.drewN W nq = W2 at *
  go_quiet (first | (go_at_call 160; exact Calls.quiet_of_same (uH HI _)))
  go_wp2
  simp only [Exit.inBlock, Exit.then, Exit.noGoto_ret]
  go_ret
  exact ⟨rfl, hbq.trans ⟨rfl, rfl, rfl, Nat.le_refl _, fun _ _ => rfl⟩⟩
 ·
  go_enter Tryz.func149, Tryz.ntmps149
  go_wp2_with fail
  refine (uH HV _).mono ?_
  rintro e W ⟨rfl, rfl⟩
  go_wp2
  go_step3
  go_wp2
  go_rounds 1
  rw [Exit.noGoto_ret]
  go_ret
  exact ⟨rfl, Below.refl _ _⟩
end Go.Proofs.YtiknnobgoamgcaaGreatDoor
namespace Go.Proofs.YtiknnobgoamgcaaGreatDoor
open Go.RowKit
set_option linter.unusedSimpArgs false
set_option linter.unusedVariables false
/-- What follows within a rune is no ASCII. -/
theorem dN_cont (n b0 b1 b2 b3 : Nat) : (1 < (Lib.decodeN n b0 b1 b2 b3).2 → 128 ≤ b1) ∧ (2 < (Lib.decodeN n b0 b1 b2 b3).2 → 128 ≤ b2) ∧ (3 < (Lib.decodeN n b0 b1 b2 b3).2 → 128 ≤ b3) := by
 unfold Lib.decodeN
 repeat' split
 all_goals (dsimp only; omega)
theorem dN_valid (n b0 b1 b2 b3 : Nat) (h : 128 ≤ b0) : Utf8.valid (Lib.decodeN n b0 b1 b2 b3).1 = true := by
 unfold Lib.decodeN Utf8.valid
 simp only [Bool.or_eq_true, Bool.and_eq_true, decide_eq_true_eq]
 repeat' split
 all_goals (dsimp only; omega)
theorem qN_skip (s : ByteArray) (p k : Nat) (hk : p + k ≤ s.size) (h : ∀ i, i < k → 128 ≤ byteAt s (p + i)) : qN s p = qN s (p + k) := by
 induction k with
 | zero => rfl
 | succ k ih =>
  have hb := h k (by omega)
  rw [ih (by omega) (fun i hi => h i (by omega)), qN_step (by omega) (by omega) (by omega)]
  rfl
/-- A rune at a place: what it is, how far it goes. -/
theorem rune_at (s : ByteArray) (p : Nat) (hp : p < s.size) : (byteAt s p < 128 ∧ (Utf8.decode s p).1 = byteAt s p ∧ (Utf8.decode s p).2 = 1) ∨
  (128 ≤ byteAt s p ∧ 128 ≤ (Utf8.decode s p).1 ∧ Utf8.valid (Utf8.decode s p).1 = true ∧ p + (Utf8.decode s p).2 ≤ s.size ∧ qN s p = qN s (p + (Utf8.decode s p).2)) := by
 have hwl := wid_le s p hp
 have hsh := dN_shape (s.size - p) (byteAt s p) (byteAt s (p + 1)) (byteAt s (p + 2)) (byteAt s (p + 3)) (byteAt_lt _ _) (byteAt_lt _ _)
 have hco := dN_cont (s.size - p) (byteAt s p) (byteAt s (p + 1)) (byteAt s (p + 2)) (byteAt s (p + 3))
 have hva := dN_valid (s.size - p) (byteAt s p) (byteAt s (p + 1)) (byteAt s (p + 2)) (byteAt s (p + 3))
 have h4 := dN_le4 (s.size - p) (byteAt s p) (byteAt s (p + 1)) (byteAt s (p + 2)) (byteAt s (p + 3))
 rw [show wid s p = (Utf8.decode s p).2 from rfl] at hwl
 rw [dec_at] at hwl ⊢
 generalize Lib.decodeN (s.size - p) (byteAt s p) (byteAt s (p + 1)) (byteAt s (p + 2)) (byteAt s (p + 3)) = d at *
 by_cases hb : byteAt s p < 128
 ·
  left
  rcases hsh with h | h | h
  ·
   exact h
  ·
   omega
  ·
   omega
 ·
  right
  refine ⟨by omega, by omega, hva (by omega), by omega, qN_skip s p d.2 (by omega) (fun i hi => ?_)⟩
  obtain rfl | rfl | rfl | rfl : i = 0 ∨ i = 1 ∨ i = 2 ∨ i = 3 := by omega
  ·
   exact Nat.le_of_not_lt hb
  ·
   exact hco.1 (by omega)
  ·
   exact hco.2.1 (by omega)
  ·
   exact hco.2.2 (by omega)
def anyN (s : ByteArray) : Int := if qN s 0 < s.size then (qN s 0 : Int) else -1
theorem indexByte_two (b : Nat) (hb : b < 128) : Lib.indexByte [34, 10] b.toUInt8 = (if b = 34 then 0 else if b = 10 then 1 else -1) := by
 by_cases h1 : b = 34
 ·
  subst h1; rfl
 ·
  by_cases h2 : b = 10
  ·
   subst h2; rfl
  ·
   rw [if_neg h1, if_neg h2]
   have e1 : ¬ (34 : UInt8) = b.toUInt8 := fun e => h1 (by have := congrArg UInt8.toNat e; simp at this; omega)
   have e2 : ¬ (10 : UInt8) = b.toUInt8 := fun e => h2 (by have := congrArg UInt8.toNat e; simp at this; omega)
   simp [Lib.indexByte, e1, e2]
set_option maxHeartbeats 600000 in
set_option maxRecDepth 100000 in
theorem sIndexAny_short (s : ByteArray) (w : World) (hs : s.size ≤ 8) :
  Calls Tryz.prog 135 #[.string s, .string ⟨#[34, 10]⟩] w fun e w' => e = .returned (.int .i64 (anyN s)) ∧ Below w.heap.size w w' := by
 have hemp : (⟨#[34, 10]⟩ : ByteArray).toList.isEmpty = false := by rw [ByteArray.toList_eq]; rfl
 have hsz : (⟨#[34, 10]⟩ : ByteArray).size = 2 := rfl
 have h8 : ¬ (8 : Int) < s.size := by omega
 have HA : ∀ (b : Nat) w, b < 128 → Calls Tryz.prog 149 #[.string ⟨#[34, 10]⟩, .int .i32 b] w fun e w' => e = .returned (.int .i64 (if b = 34 then 0 else if b = 10 then 1 else -1)) ∧ w' = w := fun b w hb => by
  have H := Tryz.strings_IndexRune_ascii ⟨#[34, 10]⟩ b w (by omega) (by omega)
  rw [show (⟨#[34, 10]⟩ : ByteArray).data.toList = [34, 10] from rfl, show (b : Int).toNat = b from rfl, indexByte_two _ hb] at H
  exact H
 replace HA := zH HA
 go_enter Tryz.func135, Tryz.ntmps135
 go_wp2
 go_loopg [9, 10] s.size (fun gf s9 s10 wx => ∃ pos : Nat, wx.heap[w.heap.size]? = some (.stringIter s pos) ∧ Below w.heap.size w wx ∧ qN s pos = qN s 0 ∧ pos ≤ s.size ∧ s.size ≤ pos + gf)
 case atStart => exact ⟨0, World.iter_heap w s 0, (Below.refl _ w).alloc (Nat.le_refl _) _, rfl, by omega, by omega⟩
 case round =>
  obtain ⟨pos, hit, hbw, hleft, hpl, hfu⟩ := hrel
  by_cases hps : pos < s.size
  ·
   obtain ⟨g', rfl⟩ : ∃ g', gk = g' + 1 := ⟨gk - 1, by omega⟩
   have hnx : ∀ ty, (Instr.next (.pointer (some ⟨w.heap.size, 0, none⟩)) true ty).run Tryz.prog wr = _ := fun ty => Lib.run_next_any_at wr w.heap.size s pos ty hit hps
   have hra := rune_at s pos hps
   have hwd : 1 ≤ (Utf8.decode s pos).2 := wid_ge s pos
   obtain ⟨R, hR⟩ : ∃ R, (Utf8.decode s pos).1 = R := ⟨_, rfl⟩
   obtain ⟨K, hK⟩ : ∃ K, (Utf8.decode s pos).2 = K := ⟨_, rfl⟩
   rw [hR, hK] at hnx hra
   rw [hK] at hwd
   clear hR hK
   have hit2 := Lib.iterAt_heap wr w.heap.size s pos (pos + K) hit
   have hbw2 := Lib.below_iterAt hbw (k := w.heap.size) (Nat.le_refl _) s (pos + K)
   have hsz2 : w.heap.size < (wr.iterAt w.heap.size s (pos + K)).heap.size := (Array.getElem?_eq_some_iff.1 hit2).1
   obtain ⟨W, hWd⟩ : ∃ W, wr.iterAt w.heap.size s (pos + K) = W := ⟨_, rfl⟩
   rw [hWd] at hnx hit2 hbw2 hsz2
   clear hWd hit hbw
   rcases hra with ⟨hb, rfl, rfl⟩ | ⟨hb, hR, hv, hpk, hq⟩
   ·
    have H := uH HA (byteAt s pos) W hb
    by_cases h34 : byteAt s pos = 34
    ·
     rw [if_pos h34] at H
     have hv : anyN s = pos := by rw [anyN, ← hleft, qN_stop (.inl h34), if_pos hps]
     replace hv := zH hv
     replace H := zH H
     clear HA hleft h34
     go_wp2_with fail
     refine (uH H).mono ?_
     rintro e W2 ⟨rfl, rfl⟩
     go_wp2
     go_ret
     exact ⟨ret_int (uH hv).symm, hbw2⟩
    ·
     by_cases h10 : byteAt s pos = 10
     ·
      rw [if_neg h34, if_pos h10] at H
      have hv : anyN s = pos := by rw [anyN, ← hleft, qN_stop (.inr h10), if_pos hps]
      replace hv := zH hv
      replace H := zH H
      clear HA hleft h10 h34
      go_wp2_with fail
      refine (uH H).mono ?_
      rintro e W2 ⟨rfl, rfl⟩
      go_wp2
      go_ret
      exact ⟨ret_int (uH hv).symm, hbw2⟩
     ·
      rw [if_neg h34, if_neg h10] at H
      rw [qN_step hps h34 h10] at hleft
      replace H := zH H
      replace hleft := zH hleft
      clear HA h10 h34
      go_wp2_with fail
      refine (uH H).mono ?_
      rintro e W2 ⟨rfl, rfl⟩
      go_wp2
      go_roundg g'
      case measure => omega
      case rel => exact ⟨pos + 1, hit2, hbw2, uH hleft, by omega, by omega⟩
   ·
    have H : Calls Tryz.prog 149 #[.string ⟨#[34, 10]⟩, .int .i32 R] W fun e w' => e = .returned (.int .i64 (-1)) ∧ Below W.heap.size W w' := by
     by_cases h : R = 65533
     ·
      subst h; exact sIndexRune_rep W
     ·
      exact sIndexRune_high R W (by omega) hv (by omega)
    rw [hq] at hleft
    replace H := zH H
    replace hleft := zH hleft
    clear HA hv
    go_wp2_with fail
    refine (uH H).mono ?_
    rintro e W2 ⟨rfl, hb2⟩
    have hit3 := (hb2.block _ hsz2).trans hit2
    have hbw3 := hbw2.trans (hb2.mono (by omega))
    go_wp2
    go_roundg g'
    case measure => omega
    case rel => exact ⟨pos + K, hit3, hbw3, uH hleft, by omega, by omega⟩
  ·
   have hnx : ∀ ty, (Instr.next (.pointer (some ⟨w.heap.size, 0, none⟩)) true ty).run Tryz.prog wr = _ := fun ty => Lib.run_next_end_at wr w.heap.size s pos ty hit (by omega)
   have hv : anyN s = -1 := by rw [anyN, ← hleft, qN_end (by omega), if_neg (by omega)]
   replace hv := zH hv
   clear hleft HA
   go_wp2
   go_ret
   exact ⟨ret_int (uH hv).symm, hbw⟩
set_option maxRecDepth 100000 in
theorem sIndexAny_any (s : ByteArray) (w : World) (hs : s.size ≤ 1000000) :
  Calls Tryz.prog 135 #[.string s, .string ⟨#[34, 10]⟩] w fun e w' => e = .returned (.int .i64 (anyN s)) ∧ Below w.heap.size w w' := by
 by_cases h8 : s.size ≤ 8
 ·
  exact sIndexAny_short s w h8
 ·
  have hv : ∀ w, (zeroValue 112).run Tryz.prog w = .ok (.agg (Array.replicate 256 (.bool false))) w := (zero_of_info (show (Tryz.prog.info? 112).map (fun i => (i.zero, i.size)) = some (some (.agg (Array.replicate 256 (.bool false))), 256) by kernel_rfl)).1
  have hi : Lib.indexAny s.data.toList [34, 10] = anyN s := by
   obtain ⟨q1, q2, q3⟩ := qN_char s 0 (Nat.zero_le _)
   have hno : ∀ k, k ≤ qN s 0 → Lib.NoAny s.data.toList [34, 10] k := fun k hk j b hj hb => by
    obtain ⟨e1, e2⟩ := byte_list s j b hb
    obtain ⟨e3, e4⟩ := q1 j (Nat.zero_le _) (by omega)
    rw [e2] at e3 e4
    simp only [List.contains_cons, List.contains_nil, Bool.or_false, Bool.or_eq_false_iff, beq_eq_false_iff_ne]
    exact ⟨fun e => e3 (by rw [e]; rfl), fun e => e4 (by rw [e]; rfl)⟩
   unfold anyN
   split
   ·
    rename_i hlt
    obtain ⟨e1, e2⟩ := list_byte s (qN s 0) hlt
    refine Lib.indexAny_hit (hno _ (Nat.le_refl _)) e1 ?_
    rcases q3 hlt with h | h
    ·
     rw [h] at e2; rw [show s.data[qN s 0]'hlt = 34 from UInt8.toNat_inj.1 e2]; rfl
    ·
     rw [h] at e2; rw [show s.data[qN s 0]'hlt = 10 from UInt8.toNat_inj.1 e2]; rfl
   ·
    refine Lib.indexAny_none (hno _ ?_)
    show s.data.toList.length ≤ _
    rw [Array.length_toList]
    show s.size ≤ _
    omega
  refine (Tryz.strings_IndexAny_long hv s ⟨#[34, 10]⟩ w (by decide) (by omega) (by omega) (by decide) (fun j b hj => ?_)).mono ?_
  ·
   simp only [List.getElem?_cons] at hj
   split at hj
   ·
    cases hj; decide
   ·
    split at hj
    ·
     cases hj; decide
    ·
     cases hj
  ·
   rintro e w' ⟨he, hw⟩
   refine ⟨by rw [he]; exact ret_int hi, ?_⟩
   rw [hw]
   exact ((Below.refl _ _).alloc (Nat.le_refl _) _).alloc (by simp) _
end Go.Proofs.YtiknnobgoamgcaaGreatDoor
/-
  The walk of name.Key.
-/
namespace Go.Proofs.YtiknnobgoamgcaaGreatDoor
open Go.RowKit
set_option linter.unusedSimpArgs false
set_option maxHeartbeats 2000000 in
set_option maxRecDepth 100000 in
theorem nKey_any (s : ByteArray) (w : World) :
  Calls Tryz.prog 134 #[.string s] w fun e w' => e = .returned (.bool (isKey s)) ∧ w' = w := by
 go_enter Tryz.func134, Tryz.ntmps134
 go_wp2
 all_goals
  go_ret
  refine ⟨ret_bool ?_, rfl⟩
  simp only [ByteArray.toList_eq] at *
  simp_all only [isKey, inB, keysB, List.any_cons, List.any_nil, Bool.true_or, Bool.false_or, Bool.or_true, Bool.or_false, Bool.false_eq_true, Bool.true_eq_false]
end Go.Proofs.YtiknnobgoamgcaaGreatDoor
/-
  The walks of package scan: letter, digit, span, sign, number, named.
-/
namespace Go.Proofs.YtiknnobgoamgcaaGreatDoor
open Go.RowKit
set_option linter.unusedSimpArgs false
set_option maxHeartbeats 400000 in
set_option maxRecDepth 100000 in
theorem scLetter_any (c : Nat) (w : World) (hc : c < 256) :
  Calls Tryz.prog 118 #[.int .u8 c] w fun e w' => e = .returned (.bool (letB c)) ∧ w' = w := by
 go_enter Tryz.func118, Tryz.ntmps118
 go_wp2
 all_goals
  go_ret
  refine ⟨ret_bool ?_, rfl⟩
  rw [Bool.eq_iff_iff]
  simp only [let_iff, Bool.or_eq_true, Bool.and_eq_true, decide_eq_true_eq, beq_iff_eq, Bool.false_eq_true, ne_eq, true_iff, false_iff]
  omega
set_option maxHeartbeats 400000 in
set_option maxRecDepth 100000 in
theorem scDigit_any (c : Nat) (w : World) (hc : c < 256) :
  Calls Tryz.prog 120 #[.int .u8 c] w fun e w' => e = .returned (.bool (digB c)) ∧ w' = w := by
 go_enter Tryz.func120, Tryz.ntmps120
 go_wp2
 all_goals
  go_ret
  refine ⟨ret_bool ?_, rfl⟩
  rw [Bool.eq_iff_iff]
  simp only [digB, Bool.or_eq_true, Bool.and_eq_true, decide_eq_true_eq, beq_iff_eq, Bool.false_eq_true, ne_eq, true_iff, false_iff]
  omega
set_option maxHeartbeats 400000 in
set_option maxRecDepth 100000 in
theorem scNamed1_any (c : Nat) (w : World) (hc : c < 256) :
  Calls Tryz.prog 133 #[.int .u8 c] w fun e w' => e = .returned (.bool (clsB true c)) ∧ w' = w := by
 have HL := fun w => scLetter_any c w hc
 have HD := fun w => scDigit_any c w hc
 have he : clsB true c = (letB c || digB c) := by rw [clsB, Bool.true_and, Bool.or_comm]
 rw [he]
 clear he
 generalize letB c = x at *
 generalize digB c = y at *
 replace HL := zH HL
 replace HD := zH HD
 go_enter Tryz.func133, Tryz.ntmps133
 go_wp2_with fail
 refine (uH HL _).mono ?_
 rintro e W ⟨rfl, rfl⟩
 cases x with
 | true =>
  go_wp2
  go_ret
  exact ⟨rfl, rfl⟩
 | false =>
  go_wp2_with fail
  refine (uH HD _).mono ?_
  rintro e W ⟨rfl, rfl⟩
  go_wp2
  go_ret
  exact ⟨rfl, rfl⟩
set_option maxHeartbeats 1000000 in
set_option maxRecDepth 100000 in
theorem scSpan_dig (s : ByteArray) (w : World) (hs : s.size ≤ maxLen) :
  Calls Tryz.prog 132 #[.string s, .func (.func 120) #[] #[]] w fun e w' => e = .returned (.int .i64 (toN s false 0)) ∧ w' = w := by
 unfold maxLen at hs
 go_enter Tryz.func132, Tryz.ntmps132
 go_wp2
 go_loopw [5] (fun ks wr => ∃ k : Nat, k ≤ s.size ∧ ks = .int .i64 k ∧ wr = w ∧ toN s false k = toN s false 0) (fun ks _ => s.size - (intOf ks).toNat)
 case atStart => exact ⟨0, Nat.zero_le _, rfl, rfl, rfl⟩
 case round =>
  obtain ⟨i, hi, rfl, rfl, hall⟩ := hrel
  by_cases hlt : i < s.size
  ·
   have hik : ∀ h, (s[i]'h).toNat = byteAt s i := fun h => byteAt_idx s i h
   have HD := scDigit_any (byteAt s i) wr (byteAt_lt s i)
   rw [show digB (byteAt s i) = clsB false (byteAt s i) by simp [clsB]] at HD
   cases hd : clsB false (byteAt s i) with
   | true =>
    have hst := toN_step (wd := false) hlt hd
    rw [hst] at hall
    rw [hd] at HD
    replace HD := zH HD
    replace hall := zH hall
    clear hst hd
    go_wp2_with fail
    refine (uH HD).mono ?_
    rintro e W ⟨rfl, rfl⟩
    go_wp2
    go_roundw
    case rel => exact ⟨i + 1, by omega, by go_num, by trivial, uH hall⟩
    case measure => simp [intOf]; omega
   | false =>
    rw [toN_stop hd] at hall
    rw [hd] at HD
    replace HD := zH HD
    replace hall := zH hall
    clear hd
    go_wp2_with fail
    refine (uH HD).mono ?_
    rintro e W ⟨rfl, rfl⟩
    go_wp2
    go_ret
    exact ⟨ret_int (uH hall ▸ rfl), rfl⟩
  ·
   rw [toN_end (by omega)] at hall
   replace hall := zH hall
   go_wp2
   go_ret
   exact ⟨ret_int (uH hall ▸ rfl), rfl⟩
set_option maxHeartbeats 1000000 in
set_option maxRecDepth 100000 in
theorem scSpan_word (s : ByteArray) (w : World) (hs : s.size ≤ maxLen) :
  Calls Tryz.prog 132 #[.string s, .func (.func 133) #[] #[]] w fun e w' => e = .returned (.int .i64 (toN s true 0)) ∧ w' = w := by
 unfold maxLen at hs
 go_enter Tryz.func132, Tryz.ntmps132
 go_wp2
 go_loopw [5] (fun ks wr => ∃ k : Nat, k ≤ s.size ∧ ks = .int .i64 k ∧ wr = w ∧ toN s true k = toN s true 0) (fun ks _ => s.size - (intOf ks).toNat)
 case atStart => exact ⟨0, Nat.zero_le _, rfl, rfl, rfl⟩
 case round =>
  obtain ⟨i, hi, rfl, rfl, hall⟩ := hrel
  by_cases hlt : i < s.size
  ·
   have hik : ∀ h, (s[i]'h).toNat = byteAt s i := fun h => byteAt_idx s i h
   have HD := scNamed1_any (byteAt s i) wr (byteAt_lt s i)
   cases hd : clsB true (byteAt s i) with
   | true =>
    have hst := toN_step (wd := true) hlt hd
    rw [hst] at hall
    rw [hd] at HD
    replace HD := zH HD
    replace hall := zH hall
    clear hst hd
    go_wp2_with fail
    refine (uH HD).mono ?_
    rintro e W ⟨rfl, rfl⟩
    go_wp2
    go_roundw
    case rel => exact ⟨i + 1, by omega, by go_num, by trivial, uH hall⟩
    case measure => simp [intOf]; omega
   | false =>
    rw [toN_stop hd] at hall
    rw [hd] at HD
    replace HD := zH HD
    replace hall := zH hall
    clear hd
    go_wp2_with fail
    refine (uH HD).mono ?_
    rintro e W ⟨rfl, rfl⟩
    go_wp2
    go_ret
    exact ⟨ret_int (uH hall ▸ rfl), rfl⟩
  ·
   rw [toN_end (by omega)] at hall
   replace hall := zH hall
   go_wp2
   go_ret
   exact ⟨ret_int (uH hall ▸ rfl), rfl⟩
/-- How long an operator begins, of at most so many bytes. -/
def opD (s : ByteArray) : Nat → Nat
 | 0 => 0
 | n + 1 => if isOp (s.extract 0 (n + 1)) then n + 1 else opD s n
theorem opD_le (s : ByteArray) : ∀ n, opD s n ≤ n := by
 intro n
 induction n with
 | zero => exact Nat.le_refl _
 | succ n ih => rw [opD]; split <;> omega
set_option maxHeartbeats 1000000 in
set_option maxRecDepth 100000 in
theorem scSign_any (s : ByteArray) (w : World) (h0 : 0 < s.size) (hs : s.size ≤ maxLen) :
  Calls Tryz.prog 123 #[.string s] w fun e w' => e = .returned (.int .i64 (opD s (min 2 s.size))) ∧ w' = w := by
 unfold maxLen at hs
 have HO := fun n w => tOp_any (s.extract 0 n) w
 replace HO := zH HO
 obtain ⟨m, hm⟩ : ∃ m, min 2 s.size = m := ⟨_, rfl⟩
 have hm1 : m ≤ 2 := by omega
 have hm2 : m ≤ s.size := by omega
 have hm3 : min 2 (s.size : Int) = m := by omega
 rw [hm]
 by_cases h2 : (2 : Int) ≤ s.size
 all_goals
  go_enter Tryz.func123, Tryz.ntmps123
  go_wp2
  go_loopw [3] (fun ks wr => ∃ n : Nat, ks = .int .i64 n ∧ wr = w ∧ n ≤ m ∧ opD s n = opD s m) (fun ks _ => (intOf ks).toNat)
  case atStart =>
   exact ⟨m, by first | rfl | (congr 1; omega), rfl, by omega, rfl⟩
  case round =>
   obtain ⟨n, rfl, rfl, hn, hall⟩ := hrel
   by_cases h3 : n = 0
   ·
    subst h3
    rw [opD] at hall
    replace hall := zH hall
    go_wp2
    go_ret
    exact ⟨ret_int (by rw [← uH hall]; rfl), rfl⟩
   ·
    obtain ⟨n', rfl⟩ : ∃ n', n = n' + 1 := ⟨n - 1, by omega⟩
    rw [opD] at hall
    have H := uH HO (n' + 1) wr
    cases hb : isOp (s.extract 0 (n' + 1)) with
    | true =>
     rw [hb] at H hall
     rw [if_pos rfl] at hall
     replace hall := zH hall
     replace H := zH H
     clear HO hb
     go_wp2_with fail
     refine (uH H).mono ?_
     rintro e W ⟨rfl, rfl⟩
     go_wp2
     go_ret
     exact ⟨ret_int (by rw [← uH hall]; rfl), rfl⟩
    | false =>
     rw [hb] at H hall
     rw [if_neg (by decide)] at hall
     replace hall := zH hall
     replace H := zH H
     clear HO hb
     go_wp2_with fail
     refine (uH H).mono ?_
     rintro e W ⟨rfl, rfl⟩
     go_wp2
     go_roundw
     case rel => exact ⟨n', by go_num, by trivial, by omega, uH hall⟩
     case measure => simp [intOf]
/-- What a number's length is; nought: none may be. -/
def numZ (s : ByteArray) : Nat := if 12 < toN s false 0 ∨ (byteAt s 0 = 48 ∧ 1 < toN s false 0) ∨ (toN s false 0 < s.size ∧ letB (byteAt s (toN s false 0)) = true) then 0 else toN s false 0
set_option maxHeartbeats 1000000 in
set_option maxRecDepth 100000 in
theorem scNumber_any (s : ByteArray) (w : World) (h0 : 0 < s.size) (hs : s.size ≤ maxLen) :
  Calls Tryz.prog 121 #[.string s] w fun e w' => e = .returned (.int .i64 (numZ s)) ∧ w' = w := by
 have HS := scSpan_dig s w hs
 have hr := toN_range (s := s) (wd := false) (a := 0) (by omega)
 have hz : numZ s = if 12 < toN s false 0 ∨ (byteAt s 0 = 48 ∧ 1 < toN s false 0) ∨ (toN s false 0 < s.size ∧ letB (byteAt s (toN s false 0)) = true) then 0 else toN s false 0 := rfl
 generalize numZ s = z at *
 generalize toN s false 0 = t at *
 unfold maxLen at hs
 have hi0 : ∀ h, (s[0]'h).toNat = byteAt s 0 := fun h => byteAt_idx s 0 h
 have hit : ∀ h, (s[t]'h).toNat = byteAt s t := fun h => byteAt_idx s t h
 have HL := fun w => scLetter_any (byteAt s t) w (byteAt_lt s t)
 have hb0 := byteAt_lt s 0
 have hbt := byteAt_lt s t
 generalize letB (byteAt s t) = y at *
 generalize byteAt s 0 = b at *
 generalize byteAt s t = c at *
 replace HS := zH HS
 replace HL := zH HL
 replace hz := zH hz
 by_cases h1 : (b : Int) = 48
 all_goals
  by_cases h2 : t < s.size
  ·
   go_enter Tryz.func121, Tryz.ntmps121
   go_wp2_with fail
   refine (uH HS).mono ?_
   rintro e W ⟨rfl, rfl⟩
   go_wp2_with fail
   refine (uH HL _).mono ?_
   rintro e W ⟨rfl, rfl⟩
   cases y
   all_goals go_wp2
   all_goals
    go_ret
    refine ⟨ret_int ?_, rfl⟩
    have hz := uH hz
    first
     | (rw [if_pos (by first | omega | (simp; omega))] at hz; rw [hz]; rfl)
     | (rw [if_neg (by first | omega | (simp; omega))] at hz; rw [hz])
  ·
   go_enter Tryz.func121, Tryz.ntmps121
   go_wp2_with fail
   refine (uH HS).mono ?_
   rintro e W ⟨rfl, rfl⟩
   go_wp2
   all_goals
    go_ret
    refine ⟨ret_int ?_, rfl⟩
    have hz := uH hz
    first
     | (rw [if_pos (by first | omega | (simp; omega))] at hz; rw [hz]; rfl)
     | (rw [if_neg (by first | omega | (simp; omega))] at hz; rw [hz])
def namZ (s : ByteArray) : Nat := if 24 < toN s true 0 then 0 else toN s true 0
def namK (s : ByteArray) : Int := if 24 < toN s true 0 then 1 else if isKey (s.extract 0 (toN s true 0)) then 5 else 1
set_option maxHeartbeats 1000000 in
set_option maxRecDepth 100000 in
theorem scNamed_any (s : ByteArray) (w : World) (h0 : 0 < s.size) (hs : s.size ≤ maxLen) :
  Calls Tryz.prog 119 #[.string s] w fun e w' => e = .returned (.tuple #[.int .i64 (namK s), .int .i64 (namZ s)]) ∧ w' = w := by
 have HS := scSpan_word s w hs
 have hr := toN_range (s := s) (wd := true) (a := 0) (by omega)
 have HK := fun w => nKey_any (s.extract 0 (toN s true 0)) w
 unfold namZ namK
 generalize isKey (s.extract 0 (toN s true 0)) = k at *
 generalize toN s true 0 = t at *
 unfold maxLen at hs
 replace HS := zH HS
 replace HK := zH HK
 by_cases h1 : 24 < t
 ·
  rw [if_pos h1, if_pos h1]
  clear HK
  go_enter Tryz.func119, Tryz.ntmps119
  go_wp2_with fail
  refine (uH HS).mono ?_
  rintro e W ⟨rfl, rfl⟩
  go_wp2
  go_ret2
  exact ⟨rfl, rfl⟩
 ·
  rw [if_neg h1, if_neg h1]
  go_enter Tryz.func119, Tryz.ntmps119
  go_wp2_with fail
  refine (uH HS).mono ?_
  rintro e W ⟨rfl, rfl⟩
  go_wp2_with fail
  refine (uH HK _).mono ?_
  rintro e W ⟨rfl, rfl⟩
  cases k
  all_goals go_wp2
  all_goals
   go_ret2
   exact ⟨rfl, rfl⟩
end Go.Proofs.YtiknnobgoamgcaaGreatDoor
/-
  The program's cutter behind its pointer: as the reference's scanner.
-/
namespace Go.Proofs.YtiknnobgoamgcaaGreatDoor
open Go.RowKit
/-- The scanner's block. -/
def cuObj (s : ByteArray) (p line : Nat) (vl vc : Value) : Obj := .cells #[.string s, .int .i64 p, .int .i64 line, vl, vc] 69 (0, 0)
def CuSt (w : World) (base g : Nat) (s : ByteArray) (x : Sc) : Prop :=
 ∃ vl vc, w.heap[g]? = some (cuObj s x.p x.line vl vc) ∧ OwnT w base vl x.l ∧ OwnC w base vc x.c ∧ base ≤ g
theorem CuSt.lt {w : World} {base g : Nat} {s : ByteArray} {x : Sc} (h : CuSt w base g s x) : g < w.heap.size := by
 obtain ⟨_, _, h, _⟩ := h
 exact (Array.getElem?_eq_some_iff.1 h).1
/-- A call that makes blocks alone. -/
theorem CuSt.below {w w' : World} {base g : Nat} {s : ByteArray} {x : Sc} (h : CuSt w base g s x) (hb : Below w.heap.size w w') : CuSt w' base g s x := by
 obtain ⟨vl, vc, h1, h2, h3, h4⟩ := h
 have hk : ∀ k o, w.heap[k]? = some o → w'.heap[k]? = w.heap[k]? := fun k o hk => hb.block k (Array.getElem?_eq_some_iff.1 hk).1
 exact ⟨vl, vc, (hk _ _ h1).trans h1, own_other h2 (fun k cur hc => hk k _ hc), own_other h3 (fun k cur hc => hk k _ hc), h4⟩
theorem cuCells {w : World} {g : Nat} {s : ByteArray} {p line : Nat} {vl vc : Value} (h : w.heap[g]? = some (cuObj s p line vl vc)) : w.cell? ⟨g, 0, none⟩ = some (.string s) ∧ w.cell? ⟨g, 1, none⟩ = some (.int .i64 p) ∧ w.cell? ⟨g, 2, none⟩ = some (.int .i64 line) ∧ w.cell? ⟨g, 3, none⟩ = some vl ∧ w.cell? ⟨g, 4, none⟩ = some vc :=
 ⟨Joins.cell_of_block h 0, Joins.cell_of_block h 1, Joins.cell_of_block h 2, Joins.cell_of_block h 3, Joins.cell_of_block h 4⟩
theorem cuFrozen {w : World} {g : Nat} {s : ByteArray} {p line : Nat} {vl vc : Value} (h : w.heap[g]? = some (cuObj s p line vl vc)) (i : Nat) : w.frozen? ⟨g, i, none⟩ = false := Joins.unfrozen_of_block h i
/-- A scanner whose tokens were appended to, and stored. -/
theorem cu_stored {w w' : World} {base g : Nat} {s : ByteArray} {p line : Nat} {vl vc v' : Value} {l l' : List Tk} {c : List Cm} (h0 : w.heap[g]? = some (cuObj s p line vl vc)) (h1 : OwnT w base vl l) (h2 : OwnC w base vc c) (h3 : base ≤ g)
  (hown : OwnT w' base v' l') (hg : w.grownBy w' vl.ownBlock) : CuSt (w'.setCell ⟨g, 3, none⟩ v') base g s ⟨p, line, l', c⟩ ∧ w'.heap[g]? = some (cuObj s p line vl vc) := by
 have hb : w'.heap[g]? = some (cuObj s p line vl vc) := (hg.block g (Array.getElem?_eq_some_iff.1 h0).1 (fun e => own_apart h1 (show 50 ≠ 69 by decide) g e.symm _ h0)).trans h0
 have hc : OwnC w' base vc c := own_grown h2 hg (own_apart h1 (show 50 ≠ 92 by decide))
 have hn : ∀ (e : Nat), e ≠ 69 → ∀ cur, w'.heap[(⟨g, 3, none⟩ : Addr).block]? ≠ some (Obj.cells cur e (0, 0)) := fun e he cur hk => by
  rw [show w'.heap[(⟨g, 3, none⟩ : Addr).block]? = some (cuObj s p line vl vc) from hb] at hk
  simp only [cuObj, Option.some.injEq, Obj.cells.injEq] at hk
  exact he hk.2.1.symm
 exact ⟨⟨v', vc, Joins.block_setCell (i := 3) hb v', own_set hown _ _ (hn _ (by decide)), own_set hc _ _ (hn _ (by decide)), h3⟩, hb⟩
theorem cu_stored_com {w w' : World} {base g : Nat} {s : ByteArray} {p line : Nat} {vl vc v' : Value} {l : List Tk} {c c' : List Cm} (h0 : w.heap[g]? = some (cuObj s p line vl vc)) (h1 : OwnT w base vl l) (h2 : OwnC w base vc c) (h3 : base ≤ g)
  (hown : OwnC w' base v' c') (hg : w.grownBy w' vc.ownBlock) : CuSt (w'.setCell ⟨g, 4, none⟩ v') base g s ⟨p, line, l, c'⟩ ∧ w'.heap[g]? = some (cuObj s p line vl vc) := by
 have hb : w'.heap[g]? = some (cuObj s p line vl vc) := (hg.block g (Array.getElem?_eq_some_iff.1 h0).1 (fun e => own_apart h2 (show 92 ≠ 69 by decide) g e.symm _ h0)).trans h0
 have hc : OwnT w' base vl l := own_grown h1 hg (own_apart h2 (show 92 ≠ 50 by decide))
 have hn : ∀ (e : Nat), e ≠ 69 → ∀ cur, w'.heap[(⟨g, 4, none⟩ : Addr).block]? ≠ some (Obj.cells cur e (0, 0)) := fun e he cur hk => by
  rw [show w'.heap[(⟨g, 4, none⟩ : Addr).block]? = some (cuObj s p line vl vc) from hb] at hk
  simp only [cuObj, Option.some.injEq, Obj.cells.injEq] at hk
  exact he hk.2.1.symm
 exact ⟨⟨vl, v', Joins.block_setCell (i := 4) hb v', own_set hc _ _ (hn _ (by decide)), own_set hown _ _ (hn _ (by decide)), h3⟩, hb⟩
/-- A scanner's place, or its line, stored. -/
theorem cu_moved {w : World} {base g : Nat} {s : ByteArray} {x : Sc} (h : CuSt w base g s x) (q : Nat) : CuSt (w.setCell ⟨g, 1, none⟩ (.int .i64 q)) base g s ⟨q, x.line, x.l, x.c⟩ ∧ CuSt (w.setCell ⟨g, 2, none⟩ (.int .i64 q)) base g s ⟨x.p, q, x.l, x.c⟩ := by
 obtain ⟨vl, vc, h0, h1, h2, h3⟩ := h
 have hn : ∀ (i e : Nat), e ≠ 69 → ∀ cur, w.heap[(⟨g, i, none⟩ : Addr).block]? ≠ some (Obj.cells cur e (0, 0)) := fun i e he cur hk => by
  rw [show w.heap[(⟨g, i, none⟩ : Addr).block]? = some (cuObj s x.p x.line vl vc) from h0] at hk
  simp only [cuObj, Option.some.injEq, Obj.cells.injEq] at hk
  exact he hk.2.1.symm
 exact ⟨⟨vl, vc, Joins.block_setCell (i := 1) h0 _, own_set h1 _ _ (hn _ _ (by decide)), own_set h2 _ _ (hn _ _ (by decide)), h3⟩, ⟨vl, vc, Joins.block_setCell (i := 2) h0 _, own_set h1 _ _ (hn _ _ (by decide)), own_set h2 _ _ (hn _ _ (by decide)), h3⟩⟩
theorem cu0_st (w : World) (s : ByteArray) : CuSt (w.alloc (.cells #[.string s, .int .i64 0, .int .i64 1, .slice none 0 0, .slice none 0 0] 69)) w.heap.size w.heap.size s sc0 :=
 ⟨.slice none 0 0, .slice none 0 0, by show (w.heap.push _)[w.heap.size]? = _; simp [cuObj, sc0], own_none _ _ _ _, own_none _ _ _ _, Nat.le_refl _⟩
end Go.Proofs.YtiknnobgoamgcaaGreatDoor
/-
  The program's cutter.comment.
-/
namespace Go.Proofs.YtiknnobgoamgcaaGreatDoor
open Go.RowKit
set_option linter.unusedSimpArgs false
theorem nlF_extract (s : ByteArray) (a : Nat) (ha : a ≤ s.size) : ∀ (f k : Nat), nlF (s.extract a s.size) f k + a = nlF s f (a + k) := by
 intro f
 induction f with
 | zero => intro k; simp only [nlF]; omega
 | succ f ih =>
  intro k
  rw [nlF, nlF, byteAt_extract, ByteArray.size_extract]
  by_cases h : a + k < s.size ∧ byteAt s (a + k) ≠ 10
  ·
   rw [if_pos ⟨by omega, h.2⟩, if_pos h, ih (k + 1)]
   rfl
  ·
   rw [if_neg (fun h' => h ⟨by omega, h'.2⟩), if_neg h]
   omega
theorem nlN_extract (s : ByteArray) (a : Nat) (ha : a ≤ s.size) : nlN (s.extract a s.size) 0 + a = nlN s a := by
 have := nlF_extract s a ha ((s.extract a s.size).size - 0) 0
 unfold nlN
 rw [this, ByteArray.size_extract, Nat.min_self, Nat.sub_zero, Nat.add_zero]
theorem extract_pre (s : ByteArray) (a k : Nat) (hk : a + k ≤ s.size) : (s.extract a s.size).extract 0 k = s.extract a (a + k) := by
 rw [ByteArray.extract_extract, Nat.add_zero, Nat.min_eq_left hk]
/-- A comment from where it stands: as it is taken. -/
def Sc.note (s : ByteArray) (x : Sc) : Sc := ⟨nlN s x.p, x.line, x.l, x.c ++ [⟨s.extract x.p (nlN s x.p), x.p, x.line, x.l.length⟩]⟩
set_option maxHeartbeats 4000000 in
set_option maxRecDepth 100000 in
theorem cuComment_any (w : World) (base g : Nat) (s : ByteArray) (x : Sc) (hx : CuSt w base g s x) (hp : x.p ≤ s.size) (hs : s.size ≤ 1000000) (hl : x.l.length ≤ 900000) (hcl : x.c.length ≤ 900000) :
  Calls Tryz.prog 80 #[.pointer (some ⟨g, 0, none⟩), .string (s.extract x.p s.size)] w fun e w' => e = .returned (.tuple #[]) ∧ CuSt w' base g s (x.note s) ∧ Below base w w' := by
 obtain ⟨vl, vc, h0, h1, h2, h3⟩ := hx
 have hnr := nlN_range (s := s) (a := x.p) hp
 have hne := nlN_extract s x.p hp
 have HC := sCut_any (s.extract x.p s.size) w (by rw [ByteArray.size_extract]; omega)
 have hpe : (s.extract x.p s.size).extract 0 (nlN (s.extract x.p s.size) 0) = s.extract x.p (nlN s x.p) := by
  rw [extract_pre s _ _ (by omega)]
  congr 1
  omega
 rw [hpe] at HC
 have hnote : x.note s = ⟨nlN s x.p, x.line, x.l, x.c ++ [⟨s.extract x.p (nlN s x.p), x.p, x.line, x.l.length⟩]⟩ := rfl
 have hts : (s.extract x.p (nlN s x.p)).size = nlN s x.p - x.p := by rw [ByteArray.size_extract]; omega
 generalize x.note s = z at *
 generalize nlN (s.extract x.p s.size) 0 = q at *
 generalize nlN s x.p = k at *
 generalize s.extract x.p s.size = rest at *
 obtain ⟨p, line, l, c⟩ := x
 dsimp only at *
 generalize s.extract p k = t at *
 clear hpe hne
 have hg0 : g < w.heap.size := (Array.getElem?_eq_some_iff.1 h0).1
 obtain ⟨al, cl, rfl, hal1, hal2⟩ := own_shape h1
 obtain ⟨ac, cc, rfl, hac1, hac2⟩ := own_shape h2
 obtain ⟨nl, hnl⟩ : ∃ nl, l.length = nl := ⟨_, rfl⟩
 obtain ⟨nc, hnc⟩ : ∃ nc, c.length = nc := ⟨_, rfl⟩
 rw [hnl] at h0 h1 hal1 hl hnote
 rw [hnc] at h0 h2 hac1 hcl
 replace HC := zH HC
 replace hnote := zH hnote
 replace hts := zH hts
 go_enter Tryz.func80, Tryz.ntmps80
 go_wp2_with fail
 refine (uH HC).mono ?_
 rintro e W0 ⟨sa, sf, rfl, hb⟩
 clear HC
 have hw : Below base w W0 := hb.mono (by omega)
 have hk : ∀ k o, w.heap[k]? = some o → W0.heap[k]? = w.heap[k]? := fun k o hk => hb.block k (Array.getElem?_eq_some_iff.1 hk).1
 have hS := (hk _ _ h0).trans h0
 replace h1 : OwnT W0 base _ l := own_other h1 (fun k cur hc => hk k _ hc)
 replace h2 : OwnC W0 base _ c := own_other h2 (fun k cur hc => hk k _ hc)
 clear h0 hb hk hg0
 have hg : g < W0.heap.size := (Array.getElem?_eq_some_iff.1 hS).1
 replace hS := zH hS
 replace h1 := zH h1
 replace h2 := zH h2
 replace hw := zH hw
 go_upto_region 1 with fail
 replace hS := uH hS
 replace h1 := uH h1
 replace h2 := uH h2
 replace hw := uH hw
 refine wp_region_D (fun w' => w'.heap[g]? = some (cuObj s p line (.slice al nl cl) (.slice ac nc cc))) (fun j => [24].contains j) (by kernel_rfl) ?_
 replace hS : W0.drew.heap[g]? = some (cuObj s p line (.slice al nl cl) (.slice ac nc cc)) := hS
 replace h1 : OwnT W0.drew base (.slice al nl cl) l := h1
 replace h2 : OwnC W0.drew base (.slice ac nc cc) c := h2
 replace hw : Below base w W0.drew := hw.drew
 replace hg : g < W0.drew.heap.size := hg
 generalize World.drew W0 = W at h1 h2 hS hw hg ⊢
 refine wpAnyD_takeC (i := 0) (v := .pointer (some ⟨g, 0, none⟩)) [24] (fun _ => rfl) rfl (by kernel_rfl) 2 (by kernel_rfl) rfl (by kernel_rfl) (by kernel_rfl) (by kernel_rfl) (fun _ _ _ h => h) (Or.inl ⟨by kernel_rfl, ?_⟩) hS ?_
 ·
  intro w hSw; go_simp
 try simp only [List.getElem_toArray, List.getElem_cons_succ, List.getElem_cons_zero, Act.put, List.setIfInBounds_toArray, List.set_cons_zero, List.set_cons_succ]
 refine wpAnyD_takeC (i := 1) (v := .pointer (some ⟨g, 0, none⟩)) [24] (fun _ => rfl) rfl (by kernel_rfl) 2 (by kernel_rfl) rfl (by kernel_rfl) (by kernel_rfl) (by kernel_rfl) (fun _ _ _ h => h) (Or.inl ⟨by kernel_rfl, ?_⟩) hS ?_
 ·
  intro w hSw; go_simp
 try simp only [List.getElem_toArray, List.getElem_cons_succ, List.getElem_cons_zero, Act.put, List.setIfInBounds_toArray, List.set_cons_zero, List.set_cons_succ]
 refine wpAnyD_takeC (i := 2) (v := .pointer (some ⟨g, 0, none⟩)) [24] (fun _ => rfl) rfl (by kernel_rfl) 2 (by kernel_rfl) rfl (by kernel_rfl) (by kernel_rfl) (by kernel_rfl) (fun _ _ _ h => h) (Or.inl ⟨by kernel_rfl, ?_⟩) hS ?_
 ·
  intro w hSw; go_simp
 try simp only [List.getElem_toArray, List.getElem_cons_succ, List.getElem_cons_zero, Act.put, List.setIfInBounds_toArray, List.set_cons_zero, List.set_cons_succ]
 refine wpAnyD_takeC (i := 3) (v := .pointer (some ⟨g, 4, none⟩)) [24] (fun _ => rfl) rfl (by kernel_rfl) 2 (by kernel_rfl) rfl (by kernel_rfl) (by kernel_rfl) (by kernel_rfl) (fun _ _ _ h => h) (Or.inl ⟨by kernel_rfl, ?_⟩) hS ?_
 ·
  intro w hSw; go_simp
 try simp only [List.getElem_toArray, List.getElem_cons_succ, List.getElem_cons_zero, Act.put, List.setIfInBounds_toArray, List.set_cons_zero, List.set_cons_succ]
 refine wpAnyD_takeC (i := 4) (v := .slice ac nc cc) [24] (fun _ => rfl) rfl (by kernel_rfl) 2 (by kernel_rfl) rfl (by kernel_rfl) (by kernel_rfl) (by kernel_rfl) (fun _ _ _ h => h) (Or.inl ⟨by kernel_rfl, ?_⟩) hS ?_
 ·
  intro w hSw; obtain ⟨x0, x1, x2, x3, x4⟩ := cuCells hSw; go_simp
 try simp only [List.getElem_toArray, List.getElem_cons_succ, List.getElem_cons_zero, Act.put, List.setIfInBounds_toArray, List.set_cons_zero, List.set_cons_succ]
 refine wpAnyD_takeC (i := 5) (v := .string t) [24] (fun _ => rfl) rfl (by kernel_rfl) 2 (by kernel_rfl) rfl (by kernel_rfl) (by kernel_rfl) (by kernel_rfl) (fun _ _ _ h => h) (Or.inl ⟨by kernel_rfl, ?_⟩) hS ?_
 ·
  intro w hSw; go_simp
 try simp only [List.getElem_toArray, List.getElem_cons_succ, List.getElem_cons_zero, Act.put, List.setIfInBounds_toArray, List.set_cons_zero, List.set_cons_succ]
 refine wpAnyD_takeC (i := 6) (v := .pointer (some ⟨g, 0, none⟩)) [24] (fun _ => rfl) rfl (by kernel_rfl) 2 (by kernel_rfl) rfl (by kernel_rfl) (by kernel_rfl) (by kernel_rfl) (fun _ _ _ h => h) (Or.inl ⟨by kernel_rfl, ?_⟩) hS ?_
 ·
  intro w hSw; go_simp
 try simp only [List.getElem_toArray, List.getElem_cons_succ, List.getElem_cons_zero, Act.put, List.setIfInBounds_toArray, List.set_cons_zero, List.set_cons_succ]
 refine wpAnyD_takeC (i := 7) (v := .pointer (some ⟨g, 0, none⟩)) [24] (fun _ => rfl) rfl (by kernel_rfl) 2 (by kernel_rfl) rfl (by kernel_rfl) (by kernel_rfl) (by kernel_rfl) (fun _ _ _ h => h) (Or.inl ⟨by kernel_rfl, ?_⟩) hS ?_
 ·
  intro w hSw; go_simp
 try simp only [List.getElem_toArray, List.getElem_cons_succ, List.getElem_cons_zero, Act.put, List.setIfInBounds_toArray, List.set_cons_zero, List.set_cons_succ]
 refine wpAnyD_takeC (i := 8) (v := .pointer (some ⟨g, 1, none⟩)) [24] (fun _ => rfl) rfl (by kernel_rfl) 2 (by kernel_rfl) rfl (by kernel_rfl) (by kernel_rfl) (by kernel_rfl) (fun _ _ _ h => h) (Or.inl ⟨by kernel_rfl, ?_⟩) hS ?_
 ·
  intro w hSw; go_simp
 try simp only [List.getElem_toArray, List.getElem_cons_succ, List.getElem_cons_zero, Act.put, List.setIfInBounds_toArray, List.set_cons_zero, List.set_cons_succ]
 refine wpAnyD_takeC (i := 9) (v := .int .i64 p) [24] (fun _ => rfl) rfl (by kernel_rfl) 2 (by kernel_rfl) rfl (by kernel_rfl) (by kernel_rfl) (by kernel_rfl) (fun _ _ _ h => h) (Or.inl ⟨by kernel_rfl, ?_⟩) hS ?_
 ·
  intro w hSw; obtain ⟨x0, x1, x2, x3, x4⟩ := cuCells hSw; go_simp
 try simp only [List.getElem_toArray, List.getElem_cons_succ, List.getElem_cons_zero, Act.put, List.setIfInBounds_toArray, List.set_cons_zero, List.set_cons_succ]
 refine wpAnyD_takeC (i := 10) (v := .pointer (some ⟨g, 0, none⟩)) [24] (fun _ => rfl) rfl (by kernel_rfl) 2 (by kernel_rfl) rfl (by kernel_rfl) (by kernel_rfl) (by kernel_rfl) (fun _ _ _ h => h) (Or.inl ⟨by kernel_rfl, ?_⟩) hS ?_
 ·
  intro w hSw; go_simp
 try simp only [List.getElem_toArray, List.getElem_cons_succ, List.getElem_cons_zero, Act.put, List.setIfInBounds_toArray, List.set_cons_zero, List.set_cons_succ]
 refine wpAnyD_takeC (i := 11) (v := .pointer (some ⟨g, 0, none⟩)) [24] (fun _ => rfl) rfl (by kernel_rfl) 2 (by kernel_rfl) rfl (by kernel_rfl) (by kernel_rfl) (by kernel_rfl) (fun _ _ _ h => h) (Or.inl ⟨by kernel_rfl, ?_⟩) hS ?_
 ·
  intro w hSw; go_simp
 try simp only [List.getElem_toArray, List.getElem_cons_succ, List.getElem_cons_zero, Act.put, List.setIfInBounds_toArray, List.set_cons_zero, List.set_cons_succ]
 refine wpAnyD_takeC (i := 12) (v := .pointer (some ⟨g, 2, none⟩)) [24] (fun _ => rfl) rfl (by kernel_rfl) 2 (by kernel_rfl) rfl (by kernel_rfl) (by kernel_rfl) (by kernel_rfl) (fun _ _ _ h => h) (Or.inl ⟨by kernel_rfl, ?_⟩) hS ?_
 ·
  intro w hSw; go_simp
 try simp only [List.getElem_toArray, List.getElem_cons_succ, List.getElem_cons_zero, Act.put, List.setIfInBounds_toArray, List.set_cons_zero, List.set_cons_succ]
 refine wpAnyD_takeC (i := 13) (v := .int .i64 line) [24] (fun _ => rfl) rfl (by kernel_rfl) 2 (by kernel_rfl) rfl (by kernel_rfl) (by kernel_rfl) (by kernel_rfl) (fun _ _ _ h => h) (Or.inl ⟨by kernel_rfl, ?_⟩) hS ?_
 ·
  intro w hSw; obtain ⟨x0, x1, x2, x3, x4⟩ := cuCells hSw; go_simp
 try simp only [List.getElem_toArray, List.getElem_cons_succ, List.getElem_cons_zero, Act.put, List.setIfInBounds_toArray, List.set_cons_zero, List.set_cons_succ]
 refine wpAnyD_takeC (i := 14) (v := .pointer (some ⟨g, 0, none⟩)) [24] (fun _ => rfl) rfl (by kernel_rfl) 2 (by kernel_rfl) rfl (by kernel_rfl) (by kernel_rfl) (by kernel_rfl) (fun _ _ _ h => h) (Or.inl ⟨by kernel_rfl, ?_⟩) hS ?_
 ·
  intro w hSw; go_simp
 try simp only [List.getElem_toArray, List.getElem_cons_succ, List.getElem_cons_zero, Act.put, List.setIfInBounds_toArray, List.set_cons_zero, List.set_cons_succ]
 refine wpAnyD_takeC (i := 15) (v := .pointer (some ⟨g, 0, none⟩)) [24] (fun _ => rfl) rfl (by kernel_rfl) 2 (by kernel_rfl) rfl (by kernel_rfl) (by kernel_rfl) (by kernel_rfl) (fun _ _ _ h => h) (Or.inl ⟨by kernel_rfl, ?_⟩) hS ?_
 ·
  intro w hSw; go_simp
 try simp only [List.getElem_toArray, List.getElem_cons_succ, List.getElem_cons_zero, Act.put, List.setIfInBounds_toArray, List.set_cons_zero, List.set_cons_succ]
 refine wpAnyD_takeC (i := 16) (v := .pointer (some ⟨g, 3, none⟩)) [24] (fun _ => rfl) rfl (by kernel_rfl) 2 (by kernel_rfl) rfl (by kernel_rfl) (by kernel_rfl) (by kernel_rfl) (fun _ _ _ h => h) (Or.inl ⟨by kernel_rfl, ?_⟩) hS ?_
 ·
  intro w hSw; go_simp
 try simp only [List.getElem_toArray, List.getElem_cons_succ, List.getElem_cons_zero, Act.put, List.setIfInBounds_toArray, List.set_cons_zero, List.set_cons_succ]
 refine wpAnyD_takeC (i := 17) (v := .slice al nl cl) [24] (fun _ => rfl) rfl (by kernel_rfl) 2 (by kernel_rfl) rfl (by kernel_rfl) (by kernel_rfl) (by kernel_rfl) (fun _ _ _ h => h) (Or.inl ⟨by kernel_rfl, ?_⟩) hS ?_
 ·
  intro w hSw; obtain ⟨x0, x1, x2, x3, x4⟩ := cuCells hSw; go_simp
 try simp only [List.getElem_toArray, List.getElem_cons_succ, List.getElem_cons_zero, Act.put, List.setIfInBounds_toArray, List.set_cons_zero, List.set_cons_succ]
 refine wpAnyD_takeC (i := 18) (v := .int .i64 nl) [24] (fun _ => rfl) rfl (by kernel_rfl) 2 (by kernel_rfl) rfl (by kernel_rfl) (by kernel_rfl) (by kernel_rfl) (fun _ _ _ h => h) (Or.inl ⟨by kernel_rfl, ?_⟩) hS ?_
 ·
  intro w hSw; go_simp
 try simp only [List.getElem_toArray, List.getElem_cons_succ, List.getElem_cons_zero, Act.put, List.setIfInBounds_toArray, List.set_cons_zero, List.set_cons_succ]
 refine wpAnyD_takeC (i := 19) (v := (.agg #[.string t, .int .i64 p, .int .i64 line, .int .i64 nl])) [24] (fun _ => rfl) rfl (by kernel_rfl) 2 (by kernel_rfl) rfl (by kernel_rfl) (by kernel_rfl) (by kernel_rfl) (fun _ _ _ h => h) (Or.inl ⟨by kernel_rfl, ?_⟩) hS ?_
 ·
  intro w hSw; go_simp
 try simp only [List.getElem_toArray, List.getElem_cons_succ, List.getElem_cons_zero, Act.put, List.setIfInBounds_toArray, List.set_cons_zero, List.set_cons_succ]
 replace h1 := zH h1
 replace h2 := zH h2
 replace hS := zH hS
 replace hw := zH hw
 refine wpAnyD_one (i := 20) rfl (by kernel_rfl) (fun K hK => ?_)
 replace hK := zH hK
 go_simp
 have hS2 : (W.alloc (.cells #[.string t, .int .i64 p, .int .i64 line, .int .i64 nl] 92)).heap[g]? = some (cuObj s p line (.slice al nl cl) (.slice ac nc cc)) := (Below.heap_alloc _ _ _ hg).trans (uH hS)
 have h1a := own_alloc (uH h1) (.cells #[.string t, .int .i64 p, .int .i64 line, .int .i64 nl] 92)
 have h2a := own_alloc (uH h2) (.cells #[.string t, .int .i64 p, .int .i64 line, .int .i64 nl] 92)
 have hn := new_com W ⟨t, p, line, nl⟩ (0, 0)
 have hwa := (uH hw).alloc (by omega) (.cells #[.string t, .int .i64 p, .int .i64 line, .int .i64 nl] 92)
 have hga : g < (W.alloc (.cells #[.string t, .int .i64 p, .int .i64 line, .int .i64 nl] 92)).heap.size := (Array.getElem?_eq_some_iff.1 hS2).1
 refine uH hK _ _ (fun _ => hS2) ?_
 clear hK K h1 h2 hS hw
 dsimp only at hn
 generalize World.alloc W _ = W2 at *
 generalize W.heap.size = gn at *
 try simp only [List.getElem_toArray, List.getElem_cons_succ, List.getElem_cons_zero, Act.put, List.setIfInBounds_toArray, List.set_cons_zero, List.set_cons_succ]
 refine wpAnyD_one (i := 21) rfl (by kernel_rfl) (fun K hK => ?_)
 rw [if_pos (by kernel_rfl)]
 refine wp_append_com (v := .slice ac nc cc) (.tmp 17) (.tmp 33) rfl ⟨t, p, line, nl⟩ rfl h2a ⟨gn, 0, none⟩ rfl hn (by omega) (by omega) ?_
 intro v' W3 hown hgrow
 obtain ⟨hst, hS3⟩ := cu_stored_com hS2 h1a h2a h3 hown hgrow
 have hwb : Below base w W3 := hwa.grown hgrow (by omega) (fun k hk => by
  rcases h2a.2 with ⟨e, _⟩ | ⟨g', cap, cur, e, hb, _⟩
  ·
   rw [e] at hk; cases hk
  ·
   rw [e] at hk
   obtain rfl : g' = k := by simpa [Value.ownBlock] using hk
   exact hb)
 obtain ⟨al', cl', hv, _, _⟩ := own_shape hown
 obtain rfl : v' = .slice al' (nc + 1) cl' := by rw [hv, List.length_append, hnc]; rfl
 clear hv
 refine hK _ _ (fun _ => hS3) ?_
 clear hK K hown hgrow h1a h2a hn hwa hS2 hga
 have hS := hS3
 clear hS3
 replace hst := zH hst
 replace hwb := zH hwb
 try simp only [List.getElem_toArray, List.getElem_cons_succ, List.getElem_cons_zero, Act.put, List.setIfInBounds_toArray, List.set_cons_zero, List.set_cons_succ]
 refine wpAnyD_takeC (i := 22) (v := .pointer (some ⟨g, 0, none⟩)) [24] (fun _ => rfl) rfl (by kernel_rfl) 2 (by kernel_rfl) rfl (by kernel_rfl) (by kernel_rfl) (by kernel_rfl) (fun _ _ _ h => h) (Or.inl ⟨by kernel_rfl, ?_⟩) hS ?_
 ·
  intro w hSw; go_simp
 try simp only [List.getElem_toArray, List.getElem_cons_succ, List.getElem_cons_zero, Act.put, List.setIfInBounds_toArray, List.set_cons_zero, List.set_cons_succ]
 refine wpAnyD_takeC (i := 23) (v := .pointer (some ⟨g, 4, none⟩)) [24] (fun _ => rfl) rfl (by kernel_rfl) 2 (by kernel_rfl) rfl (by kernel_rfl) (by kernel_rfl) (by kernel_rfl) (fun _ _ _ h => h) (Or.inl ⟨by kernel_rfl, ?_⟩) hS ?_
 ·
  intro w hSw; go_simp
 try simp only [List.getElem_toArray, List.getElem_cons_succ, List.getElem_cons_zero, Act.put, List.setIfInBounds_toArray, List.set_cons_zero, List.set_cons_succ]
 obtain ⟨x0, x1, x2, x3, x4⟩ := cuCells hS
 have hf := cuFrozen hS
 refine wpAnyD_one (i := 24) rfl (by kernel_rfl) (fun K hK => ?_)
 replace hK := zH hK
 go_simp
 refine uH hK _ _ (fun h => by cases h) ?_
 clear hK K x0 x1 x2 x3 x4 hf hS
 replace hst := uH hst
 have hwc := (uH hwb).setCell (p := ⟨g, 4, none⟩) h3 (.slice al' (nc + 1) cl')
 clear hwb
 generalize World.setCell _ _ _ = W4 at *
 refine wpAnyD_done (by kernel_rfl) ?_ _
 obtain ⟨hm, _⟩ := cu_moved hst k
 obtain ⟨vl2, vc2, h0, _, _, _⟩ := hst
 obtain ⟨x0, x1, x2, x3, x4⟩ := cuCells h0
 have hf := cuFrozen h0
 have hwd := hwc.setCell (p := ⟨g, 1, none⟩) h3 (.int .i64 k)
 have hadd : IntKind.i64.wrap ((p : Int) + (t.size : Nat)) = k := by rw [uH hts, wrapI _ (by omega) (by omega)]; omega
 clear h0 hwc
 replace hm := zH hm
 replace hwd := zH hwd
 go_wp2
 go_end0
 refine ⟨rfl, ?_, uH hwd⟩
 rw [uH hnote]
 exact uH hm
end Go.Proofs.YtiknnobgoamgcaaGreatDoor
