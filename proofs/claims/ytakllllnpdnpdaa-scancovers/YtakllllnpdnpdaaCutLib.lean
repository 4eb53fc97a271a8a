/-
  What package scan calls of Go's library: strings.Cut at a newline, strings.IndexRune beyond ASCII, strings.IndexAny at a quote or a newline.
-/
import Derived.Test.YtakllllnpdnpdaaScMath
import Derived.Test.YtakllllnpdnpdaaUtfFault
import Derived.Test.YtakllllnpdnpdaaShelf
import Derived.Lib.IndexLaws
import Derived.Laws.Runes
import Derived.BigQuiet
import Derived.WalkMore
import Derived.Test.YtakllllnpdnpdaaWrap
namespace Go.Proofs.Ytakllllnpdnpdaa
open Go.RowKit
set_option linter.unusedSimpArgs false
set_option linter.unusedVariables false
theorem nlN_eq {s : ByteArray} : ∀ (d a k : Nat), k = a + d → k ≤ s.size → (∀ i, a ≤ i → i < k → byteAt s i ≠ 10) → (k = s.size ∨ byteAt s k = 10) → nlN s a = k := by
  intro d
  induction d with
  | zero =>
    intro a k h hk _ he
    obtain rfl : k = a := h
    rcases he with he | he
    · rw [nlN_end (by omega)]
    · rw [nlN_stop he]
  | succ d ih =>
    intro a k h hk hn he
    rw [nlN_step (by omega) (hn a (Nat.le_refl _) (by omega))]
    exact ih (a + 1) k (by omega) hk (fun i h1 h2 => hn i (by omega) h2) he
theorem qF_char (s : ByteArray) : ∀ (f a : Nat), a + f = s.size → (∀ i, a ≤ i → i < qF s f a → byteAt s i ≠ 34 ∧ byteAt s i ≠ 10) ∧ qF s f a ≤ s.size ∧ (qF s f a < s.size → byteAt s (qF s f a) = 34 ∨ byteAt s (qF s f a) = 10) := by
  intro f
  induction f with
  | zero => intro a h; simp only [qF]; exact ⟨fun i h1 h2 => absurd h1 (by omega), by omega, fun h => absurd h (by omega)⟩
  | succ f ih =>
    intro a h
    rw [qF]
    split
    · rename_i hc
      obtain ⟨i1, i2, i3⟩ := ih (a + 1) (by omega)
      refine ⟨fun i h1 h2 => ?_, i2, i3⟩
      by_cases e : i = a
      · subst e; exact hc.2
      · exact i1 i (by omega) h2
    · rename_i hc
      refine ⟨fun i h1 h2 => absurd h1 (by omega), by omega, fun h => ?_⟩
      by_cases e : byteAt s a = 34
      · exact .inl e
      · by_cases e' : byteAt s a = 10
        · exact .inr e'
        · exact absurd ⟨h, e, e'⟩ hc
theorem qN_char (s : ByteArray) (a : Nat) (h : a ≤ s.size) : (∀ i, a ≤ i → i < qN s a → byteAt s i ≠ 34 ∧ byteAt s i ≠ 10) ∧ qN s a ≤ s.size ∧ (qN s a < s.size → byteAt s (qN s a) = 34 ∨ byteAt s (qN s a) = 10) := qF_char s _ a (by omega)
theorem byte_list (s : ByteArray) (i : Nat) (b : UInt8) (h : s.data.toList[i]? = some b) : i < s.size ∧ byteAt s i = b.toNat := by
  rw [Array.getElem?_toList] at h
  refine ⟨(Array.getElem?_eq_some_iff.1 h).1, ?_⟩
  rw [byteAt_eq, h]; rfl
theorem list_byte (s : ByteArray) (i : Nat) (h : i < s.size) : s.data.toList[i]? = some (s.data[i]'h) ∧ (s.data[i]'h).toNat = byteAt s i := by
  refine ⟨by rw [Array.getElem?_toList]; exact Array.getElem?_eq_getElem h, ?_⟩
  rw [byteAt_eq, Array.getElem?_eq_getElem h]; rfl
theorem indexByte_nl (s : ByteArray) : (Lib.indexByte s.data.toList 10 = -1 ∧ nlN s 0 = s.size) ∨ (Lib.indexByte s.data.toList 10 = nlN s 0 ∧ nlN s 0 < s.size) := by
  have hge := Lib.indexByte_ge s.data.toList 10
  by_cases h : Lib.indexByte s.data.toList 10 = -1
  · left
    refine ⟨h, nlN_eq s.size 0 s.size (by omega) (Nat.le_refl _) (fun i _ h2 hb => ?_) (.inl rfl)⟩
    obtain ⟨e1, e2⟩ := list_byte s i h2
    have := Lib.indexByte_none h i
    rw [e1] at this
    rw [hb] at e2
    exact this (congrArg some (UInt8.toNat_inj.1 e2))
  · right
    obtain ⟨o, ho⟩ : ∃ o : Nat, Lib.indexByte s.data.toList 10 = o := ⟨(Lib.indexByte s.data.toList 10).toNat, by omega⟩
    obtain ⟨h1, h2⟩ := Lib.indexByte_some ho
    obtain ⟨hlt, hb⟩ := byte_list s o 10 h1
    have hn : nlN s 0 = o := nlN_eq o 0 o (by omega) (by omega) (fun i _ hi hb => by
      obtain ⟨e1, e2⟩ := list_byte s i (by omega)
      have := h2 i hi
      rw [e1] at this
      rw [hb] at e2
      exact this (congrArg some (UInt8.toNat_inj.1 e2))) (.inr hb)
    rw [ho, hn]
    exact ⟨rfl, hlt⟩
set_option maxHeartbeats 1000000 in
set_option maxRecDepth 100000 in
theorem lCut_any (s : ByteArray) (w : World) (hs : s.size ≤ 1000000) :
    Calls Try.prog 27 #[.string s, .string ⟨#[10]⟩] w fun e w' => ∃ a f, e = .returned (.tuple #[.string (s.extract 0 (nlN s 0)), .string a, .bool f]) ∧ Below w.heap.size w w' := by
  have HI := fun w => Try.stringslite_Index_one s 10 w
  have hsz : (⟨#[10]⟩ : ByteArray).size = 1 := rfl
  rcases indexByte_nl s with ⟨h1, h2⟩ | ⟨h1, h2⟩
  · rw [h1] at HI
    rw [h2, ByteArray.extract_zero_size]
    clear h1 h2
    replace HI := hide HI
    go_enter Try.func27, Try.ntmps27
    go_wp2_with fail
    refine (unhide HI _).mono ?_
    rintro e W ⟨rfl, rfl⟩
    go_wp2
    go_ret3
    exact ⟨_, _, rfl, Below.refl _ _⟩
  · rw [h1] at HI
    generalize nlN s 0 = k at *
    clear h1
    replace HI := hide HI
    go_enter Try.func27, Try.ntmps27
    go_wp2_with fail
    refine (unhide HI _).mono ?_
    rintro e W ⟨rfl, rfl⟩
    go_wp2
    go_quiet (fail)
    go_wp2
    go_ret3
    exact ⟨_, _, rfl, ⟨rfl, rfl, rfl, Nat.le_refl _, fun _ _ => rfl⟩⟩
set_option maxHeartbeats 1000000 in
set_option maxRecDepth 100000 in
theorem sCut_any (s : ByteArray) (w : World) (hs : s.size ≤ 1000000) :
    Calls Try.prog 23 #[.string s, .string ⟨#[10]⟩] w fun e w' => ∃ a f, e = .returned (.tuple #[.string (s.extract 0 (nlN s 0)), .string a, .bool f]) ∧ Below w.heap.size w w' := by
  have H := hide (lCut_any s w hs)
  generalize s.extract 0 (nlN s 0) = t at *
  go_enter Try.func23, Try.ntmps23
  go_wp2_with fail
  refine (unhide H).mono ?_
  rintro e W ⟨a, f, rfl, hb⟩
  go_wp2
  go_ret3
  exact ⟨a, f, rfl, hb⟩
end Go.Proofs.Ytakllllnpdnpdaa
namespace Go.Proofs.Ytakllllnpdnpdaa
open Go.RowKit
set_option linter.unusedSimpArgs false
set_option linter.unusedVariables false
set_option maxHeartbeats 4000000 in
set_option maxRecDepth 100000 in
/-- A rune beyond ASCII is neither. -/
theorem sIndexRune_rep (w : World) :
    Calls Try.prog 44 #[.string ⟨#[34, 10]⟩, .int .i32 65533] w fun e w' => e = .returned (.int .i64 (-1)) ∧ Below w.heap.size w w' := by
  have hsz : (⟨#[34, 10]⟩ : ByteArray).size = 2 := rfl
  have hd0 : Utf8.decode ⟨#[34, 10]⟩ 0 = (34, 1) := by decide
  have hd1 : Utf8.decode ⟨#[34, 10]⟩ 1 = (10, 1) := by decide
  go_enter Try.func44, Try.ntmps44
  go_wp2
  go_loopg [5, 6] 2 (fun gf s5 s6 wx => ∃ pos : Nat, wx.heap[w.heap.size]? = some (.stringIter ⟨#[34, 10]⟩ pos) ∧ Below w.heap.size w wx ∧ pos + gf = 2)
  case atStart => exact ⟨0, World.iter_heap w _ 0, (Below.refl _ w).alloc (Nat.le_refl _) _, rfl⟩
  case round =>
    obtain ⟨pos, hit, hbw, hfu⟩ := hrel
    by_cases hps : pos < 2
    · obtain ⟨g', rfl⟩ : ∃ g', gk = g' + 1 := ⟨gk - 1, by omega⟩
      have hnx : ∀ ty, (Instr.next (.pointer (some ⟨w.heap.size, 0, none⟩)) true ty).run Try.prog wr = _ := fun ty => Lib.run_next_any_at wr w.heap.size _ pos ty hit hps
      obtain ⟨R, hR⟩ : ∃ R, (Utf8.decode ⟨#[34, 10]⟩ pos).1 = R := ⟨_, rfl⟩
      have hK : (Utf8.decode ⟨#[34, 10]⟩ pos).2 = 1 := by
        obtain rfl | rfl : pos = 0 ∨ pos = 1 := by omega
        · rw [hd0]
        · rw [hd1]
      have hRl : R < 128 := by
        obtain rfl | rfl : pos = 0 ∨ pos = 1 := by omega
        · rw [← hR, hd0]; decide
        · rw [← hR, hd1]; decide
      rw [hR, hK] at hnx
      clear hR hK
      have hit2 := Lib.iterAt_heap wr w.heap.size _ pos (pos + 1) hit
      have hbw2 := Lib.below_iterAt hbw (k := w.heap.size) (Nat.le_refl _) ⟨#[34, 10]⟩ (pos + 1)
      obtain ⟨W, hWd⟩ : ∃ W, wr.iterAt w.heap.size ⟨#[34, 10]⟩ (pos + 1) = W := ⟨_, rfl⟩
      rw [hWd] at hnx hit2 hbw2
      clear hWd hit hbw
      have hne : ¬ (R : Int) = 65533 := by omega
      go_wp2
      go_roundg g'
      case measure => omega
      case rel => exact ⟨pos + 1, hit2, hbw2, by omega⟩
    · have hnx : ∀ ty, (Instr.next (.pointer (some ⟨w.heap.size, 0, none⟩)) true ty).run Try.prog wr = _ := fun ty => Lib.run_next_end_at wr w.heap.size _ pos ty hit (by rw [hsz]; omega)
      go_wp2
      go_ret
      exact ⟨rfl, hbw⟩
set_option maxHeartbeats 4000000 in
set_option maxRecDepth 100000 in
theorem sIndexRune_high (r : Int) (w : World) (h0 : 128 ≤ r) (hv : Utf8.valid r = true) (hr : r ≠ 65533) :
    Calls Try.prog 44 #[.string ⟨#[34, 10]⟩, .int .i32 r] w fun e w' => e = .returned (.int .i64 (-1)) ∧ Below w.heap.size w w' := by
  have hsz : (⟨#[34, 10]⟩ : ByteArray).size = 2 := rfl
  obtain ⟨e1, e2, e3⟩ := encode_facts r hv h0
  have HV := fun w => Try.utf8_ValidRune r w
  have hvr : Lib.validRune r = true := by
    unfold Utf8.valid at hv
    unfold Lib.validRune
    simp only [Bool.or_eq_true, Bool.and_eq_true, decide_eq_true_eq] at hv ⊢
    omega
  rw [hvr] at HV
  clear hvr hv
  generalize hE : Utf8.encode r = E at *
  obtain ⟨n, hn⟩ : ∃ n, E.size = n + 1 := ⟨E.size - 1, by omega⟩
  have hlt : n < E.size := by omega
  have hb : 128 ≤ (E[n]'hlt).toNat := by
    have := e3 (by omega)
    simpa only [hn, Nat.add_sub_cancel] using this
  have hbl : (E[n]'hlt).toNat < 256 := UInt8.toNat_lt _
  obtain ⟨b, hbe⟩ : ∃ b, (E[n]'hlt).toNat = b := ⟨_, rfl⟩
  rw [hbe] at hb hbl
  have hix : ∀ h, (E[n]'h).toNat = b := fun _ => hbe
  clear hbe e3
  have HI := fun w => Try.strings_IndexByte ByteArray.empty b w
  rw [show Lib.indexByte ByteArray.empty.data.toList (b : Int).toNat.toUInt8 = -1 from rfl] at HI
  replace HV := hide HV
  replace HI := hide HI
  by_cases hn1 : n = 1
  · subst hn1
    go_enter Try.func44, Try.ntmps44
    go_wp2_with fail
    refine (unhide HV _).mono ?_
    rintro e W ⟨rfl, rfl⟩
    go_wp2
    go_step3
    go_wp2
    go_rounds 1
    go_step3
    have hcz : ∀ h, ((((⟨#[34, 10]⟩ : ByteArray)[1]'h).toNat : Int) != (b : Int)) = true := fun h => by
      rw [show (((⟨#[34, 10]⟩ : ByteArray)[1]'h).toNat) = 10 from rfl, bne_iff_ne]; omega
    have hw2 : IntKind.i64.wrap 2 = 2 := wrapI _ (by omega) (by omega)
    have hx2 : (⟨#[34, 10]⟩ : ByteArray).extract 2 2 = ⟨#[]⟩ := by rfl
    go_wp2
    go_quiet (fail)
    go_wp2
    have hbq := Joins.below_draws W.heap.size W nq
    generalize World.drewN W nq = W2 at *
    go_quiet (first | (go_at_call 50; exact Calls.quiet_of_same (unhide HI _)))
    go_wp2
    simp only [Exit.inBlock, Exit.then, Exit.noGoto_ret]
    go_ret
    exact ⟨rfl, hbq.trans ⟨rfl, rfl, rfl, Nat.le_refl _, fun _ _ => rfl⟩⟩
  · go_enter Try.func44, Try.ntmps44
    go_wp2_with fail
    refine (unhide HV _).mono ?_
    rintro e W ⟨rfl, rfl⟩
    go_wp2
    go_step3
    go_wp2
    go_rounds 1
    rw [Exit.noGoto_ret]
    go_ret
    exact ⟨rfl, Below.refl _ _⟩
end Go.Proofs.Ytakllllnpdnpdaa
namespace Go.Proofs.Ytakllllnpdnpdaa
open Go.RowKit
set_option linter.unusedSimpArgs false
set_option linter.unusedVariables false
/-- What follows within a rune is no ASCII. -/
theorem dN_cont (n b0 b1 b2 b3 : Nat) : (1 < (Lib.decodeN n b0 b1 b2 b3).2 → 128 ≤ b1) ∧ (2 < (Lib.decodeN n b0 b1 b2 b3).2 → 128 ≤ b2) ∧ (3 < (Lib.decodeN n b0 b1 b2 b3).2 → 128 ≤ b3) := by
  unfold Lib.decodeN
  repeat' split
  all_goals (dsimp only; omega)
theorem dN_valid (n b0 b1 b2 b3 : Nat) (h : 128 ≤ b0) : Utf8.valid (Lib.decodeN n b0 b1 b2 b3).1 = true := by
  unfold Lib.decodeN Utf8.valid
  simp only [Bool.or_eq_true, Bool.and_eq_true, decide_eq_true_eq]
  repeat' split
  all_goals (dsimp only; omega)
theorem qN_skip (s : ByteArray) (p k : Nat) (hk : p + k ≤ s.size) (h : ∀ i, i < k → 128 ≤ byteAt s (p + i)) : qN s p = qN s (p + k) := by
  induction k with
  | zero => rfl
  | succ k ih =>
    have hb := h k (by omega)
    rw [ih (by omega) (fun i hi => h i (by omega)), qN_step (by omega) (by omega) (by omega)]
    rfl
/-- A rune at a place: what it is, how far it goes. -/
theorem rune_at (s : ByteArray) (p : Nat) (hp : p < s.size) : (byteAt s p < 128 ∧ (Utf8.decode s p).1 = byteAt s p ∧ (Utf8.decode s p).2 = 1) ∨
    (128 ≤ byteAt s p ∧ 128 ≤ (Utf8.decode s p).1 ∧ Utf8.valid (Utf8.decode s p).1 = true ∧ p + (Utf8.decode s p).2 ≤ s.size ∧ qN s p = qN s (p + (Utf8.decode s p).2)) := by
  have hwl := wid_le s p hp
  have hsh := dN_shape (s.size - p) (byteAt s p) (byteAt s (p + 1)) (byteAt s (p + 2)) (byteAt s (p + 3)) (byteAt_lt _ _) (byteAt_lt _ _)
  have hco := dN_cont (s.size - p) (byteAt s p) (byteAt s (p + 1)) (byteAt s (p + 2)) (byteAt s (p + 3))
  have hva := dN_valid (s.size - p) (byteAt s p) (byteAt s (p + 1)) (byteAt s (p + 2)) (byteAt s (p + 3))
  have h4 := dN_le4 (s.size - p) (byteAt s p) (byteAt s (p + 1)) (byteAt s (p + 2)) (byteAt s (p + 3))
  rw [show wid s p = (Utf8.decode s p).2 from rfl] at hwl
  rw [dec_at] at hwl ⊢
  generalize Lib.decodeN (s.size - p) (byteAt s p) (byteAt s (p + 1)) (byteAt s (p + 2)) (byteAt s (p + 3)) = d at *
  by_cases hb : byteAt s p < 128
  · left
    rcases hsh with h | h | h
    · exact h
    · omega
    · omega
  · right
    refine ⟨by omega, by omega, hva (by omega), by omega, qN_skip s p d.2 (by omega) (fun i hi => ?_)⟩
    obtain rfl | rfl | rfl | rfl : i = 0 ∨ i = 1 ∨ i = 2 ∨ i = 3 := by omega
    · exact Nat.le_of_not_lt hb
    · exact hco.1 (by omega)
    · exact hco.2.1 (by omega)
    · exact hco.2.2 (by omega)
def anyN (s : ByteArray) : Int := if qN s 0 < s.size then (qN s 0 : Int) else -1
theorem indexByte_two (b : Nat) (hb : b < 128) : Lib.indexByte [34, 10] b.toUInt8 = (if b = 34 then 0 else if b = 10 then 1 else -1) := by
  by_cases h1 : b = 34
  · subst h1; rfl
  · by_cases h2 : b = 10
    · subst h2; rfl
    · rw [if_neg h1, if_neg h2]
      have e1 : ¬ (34 : UInt8) = b.toUInt8 := fun e => h1 (by have := congrArg UInt8.toNat e; simp at this; omega)
      have e2 : ¬ (10 : UInt8) = b.toUInt8 := fun e => h2 (by have := congrArg UInt8.toNat e; simp at this; omega)
      simp [Lib.indexByte, e1, e2]
set_option maxHeartbeats 600000 in
set_option maxRecDepth 100000 in
theorem sIndexAny_short (s : ByteArray) (w : World) (hs : s.size ≤ 8) :
    Calls Try.prog 38 #[.string s, .string ⟨#[34, 10]⟩] w fun e w' => e = .returned (.int .i64 (anyN s)) ∧ Below w.heap.size w w' := by
  have hemp : (⟨#[34, 10]⟩ : ByteArray).toList.isEmpty = false := by rw [ByteArray.toList_eq]; rfl
  have hsz : (⟨#[34, 10]⟩ : ByteArray).size = 2 := rfl
  have h8 : ¬ (8 : Int) < s.size := by omega
  have HA : ∀ (b : Nat) w, b < 128 → Calls Try.prog 44 #[.string ⟨#[34, 10]⟩, .int .i32 b] w fun e w' => e = .returned (.int .i64 (if b = 34 then 0 else if b = 10 then 1 else -1)) ∧ w' = w := fun b w hb => by
    have H := Try.strings_IndexRune_ascii ⟨#[34, 10]⟩ b w (by omega) (by omega)
    rw [show (⟨#[34, 10]⟩ : ByteArray).data.toList = [34, 10] from rfl, show (b : Int).toNat = b from rfl, indexByte_two _ hb] at H
    exact H
  replace HA := hide HA
  go_enter Try.func38, Try.ntmps38
  go_wp2
  go_loopg [9, 10] s.size (fun gf s9 s10 wx => ∃ pos : Nat, wx.heap[w.heap.size]? = some (.stringIter s pos) ∧ Below w.heap.size w wx ∧ qN s pos = qN s 0 ∧ pos ≤ s.size ∧ s.size ≤ pos + gf)
  case atStart => exact ⟨0, World.iter_heap w s 0, (Below.refl _ w).alloc (Nat.le_refl _) _, rfl, by omega, by omega⟩
  case round =>
    obtain ⟨pos, hit, hbw, hleft, hpl, hfu⟩ := hrel
    by_cases hps : pos < s.size
    · obtain ⟨g', rfl⟩ : ∃ g', gk = g' + 1 := ⟨gk - 1, by omega⟩
      have hnx : ∀ ty, (Instr.next (.pointer (some ⟨w.heap.size, 0, none⟩)) true ty).run Try.prog wr = _ := fun ty => Lib.run_next_any_at wr w.heap.size s pos ty hit hps
      have hra := rune_at s pos hps
      have hwd : 1 ≤ (Utf8.decode s pos).2 := wid_ge s pos
      obtain ⟨R, hR⟩ : ∃ R, (Utf8.decode s pos).1 = R := ⟨_, rfl⟩
      obtain ⟨K, hK⟩ : ∃ K, (Utf8.decode s pos).2 = K := ⟨_, rfl⟩
      rw [hR, hK] at hnx hra
      rw [hK] at hwd
      clear hR hK
      have hit2 := Lib.iterAt_heap wr w.heap.size s pos (pos + K) hit
      have hbw2 := Lib.below_iterAt hbw (k := w.heap.size) (Nat.le_refl _) s (pos + K)
      have hsz2 : w.heap.size < (wr.iterAt w.heap.size s (pos + K)).heap.size := (Array.getElem?_eq_some_iff.1 hit2).1
      obtain ⟨W, hWd⟩ : ∃ W, wr.iterAt w.heap.size s (pos + K) = W := ⟨_, rfl⟩
      rw [hWd] at hnx hit2 hbw2 hsz2
      clear hWd hit hbw
      rcases hra with ⟨hb, rfl, rfl⟩ | ⟨hb, hR, hv, hpk, hq⟩
      · have H := unhide HA (byteAt s pos) W hb
        by_cases h34 : byteAt s pos = 34
        · rw [if_pos h34] at H
          have hv : anyN s = pos := by rw [anyN, ← hleft, qN_stop (.inl h34), if_pos hps]
          replace hv := hide hv
          replace H := hide H
          clear HA hleft h34
          go_wp2_with fail
          refine (unhide H).mono ?_
          rintro e W2 ⟨rfl, rfl⟩
          go_wp2
          go_ret
          exact ⟨ret_int (unhide hv).symm, hbw2⟩
        · by_cases h10 : byteAt s pos = 10
          · rw [if_neg h34, if_pos h10] at H
            have hv : anyN s = pos := by rw [anyN, ← hleft, qN_stop (.inr h10), if_pos hps]
            replace hv := hide hv
            replace H := hide H
            clear HA hleft h10 h34
            go_wp2_with fail
            refine (unhide H).mono ?_
            rintro e W2 ⟨rfl, rfl⟩
            go_wp2
            go_ret
            exact ⟨ret_int (unhide hv).symm, hbw2⟩
          · rw [if_neg h34, if_neg h10] at H
            rw [qN_step hps h34 h10] at hleft
            replace H := hide H
            replace hleft := hide hleft
            clear HA h10 h34
            go_wp2_with fail
            refine (unhide H).mono ?_
            rintro e W2 ⟨rfl, rfl⟩
            go_wp2
            go_roundg g'
            case measure => omega
            case rel => exact ⟨pos + 1, hit2, hbw2, unhide hleft, by omega, by omega⟩
      · have H : Calls Try.prog 44 #[.string ⟨#[34, 10]⟩, .int .i32 R] W fun e w' => e = .returned (.int .i64 (-1)) ∧ Below W.heap.size W w' := by
          by_cases h : R = 65533
          · subst h; exact sIndexRune_rep W
          · exact sIndexRune_high R W (by omega) hv (by omega)
        rw [hq] at hleft
        replace H := hide H
        replace hleft := hide hleft
        clear HA hv
        go_wp2_with fail
        refine (unhide H).mono ?_
        rintro e W2 ⟨rfl, hb2⟩
        have hit3 := (hb2.block _ hsz2).trans hit2
        have hbw3 := hbw2.trans (hb2.mono (by omega))
        go_wp2
        go_roundg g'
        case measure => omega
        case rel => exact ⟨pos + K, hit3, hbw3, unhide hleft, by omega, by omega⟩
    · have hnx : ∀ ty, (Instr.next (.pointer (some ⟨w.heap.size, 0, none⟩)) true ty).run Try.prog wr = _ := fun ty => Lib.run_next_end_at wr w.heap.size s pos ty hit (by omega)
      have hv : anyN s = -1 := by rw [anyN, ← hleft, qN_end (by omega), if_neg (by omega)]
      replace hv := hide hv
      clear hleft HA
      go_wp2
      go_ret
      exact ⟨ret_int (unhide hv).symm, hbw⟩
set_option maxRecDepth 100000 in
theorem sIndexAny_any (s : ByteArray) (w : World) (hs : s.size ≤ 1000000) :
    Calls Try.prog 38 #[.string s, .string ⟨#[34, 10]⟩] w fun e w' => e = .returned (.int .i64 (anyN s)) ∧ Below w.heap.size w w' := by
  by_cases h8 : s.size ≤ 8
  · exact sIndexAny_short s w h8
  · have hv : ∀ w, (zeroValue 59).run Try.prog w = .ok (.agg (Array.replicate 256 (.bool false))) w := (zero_of_info (show (Try.prog.info? 59).map (fun i => (i.zero, i.size)) = some (some (.agg (Array.replicate 256 (.bool false))), 256) by kernel_rfl)).1
    have hi : Lib.indexAny s.data.toList [34, 10] = anyN s := by
      obtain ⟨q1, q2, q3⟩ := qN_char s 0 (Nat.zero_le _)
      have hno : ∀ k, k ≤ qN s 0 → Lib.NoAny s.data.toList [34, 10] k := fun k hk j b hj hb => by
        obtain ⟨e1, e2⟩ := byte_list s j b hb
        obtain ⟨e3, e4⟩ := q1 j (Nat.zero_le _) (by omega)
        rw [e2] at e3 e4
        simp only [List.contains_cons, List.contains_nil, Bool.or_false, Bool.or_eq_false_iff, beq_eq_false_iff_ne]
        exact ⟨fun e => e3 (by rw [e]; rfl), fun e => e4 (by rw [e]; rfl)⟩
      unfold anyN
      split
      · rename_i hlt
        obtain ⟨e1, e2⟩ := list_byte s (qN s 0) hlt
        refine Lib.indexAny_hit (hno _ (Nat.le_refl _)) e1 ?_
        rcases q3 hlt with h | h
        · rw [h] at e2; rw [show s.data[qN s 0]'hlt = 34 from UInt8.toNat_inj.1 e2]; rfl
        · rw [h] at e2; rw [show s.data[qN s 0]'hlt = 10 from UInt8.toNat_inj.1 e2]; rfl
      · refine Lib.indexAny_none (hno _ ?_)
        show s.data.toList.length ≤ _
        rw [Array.length_toList]
        show s.size ≤ _
        omega
    refine (Try.strings_IndexAny_long hv s ⟨#[34, 10]⟩ w (by decide) (by omega) (by omega) (by decide) (fun j b hj => ?_)).mono ?_
    · simp only [List.getElem?_cons] at hj
      split at hj
      · cases hj; decide
      · split at hj
        · cases hj; decide
        · cases hj
    · rintro e w' ⟨he, hw⟩
      refine ⟨by rw [he]; exact ret_int hi, ?_⟩
      rw [hw]
      exact ((Below.refl _ _).alloc (Nat.le_refl _) _).alloc (by simp) _
end Go.Proofs.Ytakllllnpdnpdaa
