/-
  Texts of known bytes cut into words, so many of one kind among them. No program.
-/
import Derived.Test.YtmhkmmcicfpakabScanCat
namespace Go.Proofs.Ytmhkmmcicfpakab
set_option linter.unusedVariables false
def bs (l : List UInt8) : ByteArray := ⟨l.toArray⟩
theorem bs_size (l : List UInt8) : (bs l).size = l.length := by
  show l.toArray.size = _
  simp
theorem bs_app (a b : List UInt8) : bs a ++ bs b = bs (a ++ b) := by
  apply ByteArray.ext
  rw [ByteArray.data_append]
  show a.toArray ++ b.toArray = (a ++ b).toArray
  simp
theorem byteAt_bs (l : List UInt8) (i : Nat) : byteAt (bs l) i = (l.getD i 0).toNat := by
  rw [byteAt_eq]
  show (l.toArray[i]?.getD 0).toNat = _
  simp [List.getD]
theorem extract_bs (l : List UInt8) (a b : Nat) : (bs l).extract a b = bs ((l.take b).drop a) := by
  apply ByteArray.ext
  rw [ByteArray.data_extract]
  show l.toArray.extract a b = ((l.take b).drop a).toArray
  apply Array.ext'
  simp [List.drop_take]
theorem reps_bs (c : UInt8) (n : Nat) : reps c n = bs (List.replicate n c) := rfl
/-- A byte of a text of three parts. -/
theorem getD3 (p : List UInt8) (n : Nat) (x : UInt8) (q : List UInt8) (i : Nat) : (p ++ List.replicate n x ++ q).getD i 0 = if i < p.length then p.getD i 0 else if i < p.length + n then x else q.getD (i - p.length - n) 0 := by
  simp only [List.getD]
  by_cases h1 : i < p.length
  · rw [if_pos h1, List.append_assoc, List.getElem?_append_left h1]
  · rw [if_neg h1, List.append_assoc, List.getElem?_append_right (by omega)]
    by_cases h2 : i < p.length + n
    · rw [if_pos h2, List.getElem?_append_left (by simp; omega), List.getElem?_replicate, if_pos (by omega)]
      rfl
    · rw [if_neg h2, List.getElem?_append_right (by simp; omega), List.length_replicate]
theorem toN_eq {s : ByteArray} {wd : Bool} : ∀ (d a k : Nat), k = a + d → k ≤ s.size → (∀ i, a ≤ i → i < k → clsB wd (byteAt s i) = true) → (k = s.size ∨ clsB wd (byteAt s k) = false) → toN s wd a = k := by
  intro d
  induction d with
  | zero =>
    intro a k h hk _ he
    obtain rfl : k = a := h
    rcases he with he | he
    · rw [toN_end (by omega)]
    · rw [toN_stop he]
  | succ d ih =>
    intro a k h hk hn he
    rw [toN_step (by omega) (hn a (Nat.le_refl _) (by omega))]
    exact ih (a + 1) k (by omega) hk (fun i h1 h2 => hn i (by omega) h2) he
theorem qN_eq {s : ByteArray} : ∀ (d a k : Nat), k = a + d → k ≤ s.size → (∀ i, a ≤ i → i < k → byteAt s i ≠ 34 ∧ byteAt s i ≠ 10) → (k = s.size ∨ byteAt s k = 34 ∨ byteAt s k = 10) → qN s a = k := by
  intro d
  induction d with
  | zero =>
    intro a k h hk _ he
    obtain rfl : k = a := h
    rcases he with he | he
    · rw [qN_end (by omega)]
    · rw [qN_stop he]
  | succ d ih =>
    intro a k h hk hn he
    have := hn a (Nat.le_refl _) (by omega)
    rw [qN_step (by omega) this.1 this.2]
    exact ih (a + 1) k (by omega) hk (fun i h1 h2 => hn i (by omega) h2) he
/-- ASCII that may be written has no fault. -/
theorem fltF_plain (s : ByteArray) (hs : ∀ i, i < s.size → (32 ≤ byteAt s i ∧ byteAt s i < 127) ∨ byteAt s i = 10) : ∀ (f pos : Nat), fltF s f pos = -1 := by
  intro f
  induction f with
  | zero => intro pos; rfl
  | succ f ih =>
    intro pos
    by_cases hp : pos < s.size
    · have hb := hs pos hp
      have hsh := dN_shape (s.size - pos) (byteAt s pos) (byteAt s (pos + 1)) (byteAt s (pos + 2)) (byteAt s (pos + 3)) (byteAt_lt _ _) (byteAt_lt _ _)
      have hbad : bad s pos = false := by
        have hc : ctl (byteAt s pos) = false := by
          unfold ctl
          rcases hb with h | h
          · have a1 : ¬ byteAt s pos < 32 := by omega
            have a2 : ¬ byteAt s pos = 127 := by omega
            simp [a1, a2]
          · simp [h]
        rw [show bad s pos = (ctl (byteAt s pos) || err s pos) from rfl, hc, Bool.false_or]
        unfold err errN
        rw [decide_eq_false (show ¬ 128 ≤ byteAt s pos by omega), Bool.and_false]
      simp only [fltF, hp, if_true, hbad, Bool.false_eq_true, if_false]
      exact ih _
    · exact fltF_end s _ pos hp
theorem flt_plain (s : ByteArray) (hs : ∀ i, i < s.size → (32 ≤ byteAt s i ∧ byteAt s i < 127) ∨ byteAt s i = 10) : flt s = -1 := fltF_plain s hs _ _
theorem scanS_plain (s : ByteArray) (hs : ∀ i, i < s.size → (32 ≤ byteAt s i ∧ byteAt s i < 127) ∨ byteAt s i = 10) (h2 : s.size ≤ 2000) : scanS s = scanR s (-1) := by
  rw [scanS, flt_plain s hs, bigF, if_neg (by omega)]
/-- One step. -/
theorem step_blank {s : ByteArray} {x : Sc} {f : Nat} (hp : x.p < s.size) (h : byteAt s x.p = 32) : scanL s (f + 1) x = scanL s f ⟨x.p + 1, x.line, x.l, x.c⟩ := by
  have e : x.one s = (true, ⟨x.p + 1, x.line, x.l, x.c⟩) := by rw [Sc.one, if_pos (.inl h)]
  rw [scanL_step hp (by rw [e]), e]
theorem step_nl {s : ByteArray} {x : Sc} {f : Nat} (hp : x.p < s.size) (h : byteAt s x.p = 10) : scanL s (f + 1) x = scanL s f ⟨x.p + 1, x.line + 1, x.semi.l, x.c⟩ := by
  have e : x.one s = (true, ⟨x.p + 1, x.line + 1, x.semi.l, x.c⟩) := by rw [Sc.one, if_neg (by omega), if_pos h]
  rw [scanL_step hp (by rw [e]), e]
theorem step_com {s : ByteArray} {x : Sc} {f : Nat} (hp : x.p < s.size) (h : byteAt s x.p = 47) (h1 : x.p + 1 < s.size) (h2 : byteAt s (x.p + 1) = 47) : scanL s (f + 1) x = scanL s f (x.com s) := by
  have hc : x.isCom s = true := by rw [Sc.isCom, decide_eq_true h1, decide_eq_true h2]; rfl
  have e : x.one s = (true, x.com s) := by rw [Sc.one, if_neg (by omega), if_neg (by omega), if_neg (by omega), if_pos h, hc, Sc.comment, if_pos hc]
  rw [scanL_step hp (by rw [e]), e]
theorem let_not {c : Nat} (h : letB c = true) : c ≠ 32 ∧ c ≠ 9 ∧ c ≠ 10 ∧ c ≠ 59 ∧ c ≠ 47 ∧ c ≠ 34 ∧ digB c = false := by
  have h := (let_iff c).1 h
  have hd : digB c = false := is_false (dig_iff c) (by omega)
  exact ⟨by omega, by omega, by omega, by omega, by omega, by omega, hd⟩
theorem one_let {s : ByteArray} {x : Sc} (h : letB (byteAt s x.p) = true) : x.one s = (decide (toN s true x.p - x.p ≤ 24), if toN s true x.p - x.p ≤ 24 then x.add s (if isKey (s.extract x.p (toN s true x.p)) then 5 else 1) (toN s true x.p) else x) := by
  obtain ⟨h1, h2, h3, h4, h5, h6, h7⟩ := let_not h
  rw [Sc.one, if_neg (by omega), if_neg h3, if_neg h4, if_neg h5, if_neg h6, h7, if_neg (by decide), if_pos h]
theorem step_name {s : ByteArray} {x : Sc} {f k : Nat} (hp : x.p < s.size) (h : letB (byteAt s x.p) = true) (hk : toN s true x.p = k) (hl : k - x.p ≤ 24) : scanL s (f + 1) x = scanL s f (x.add s (if isKey (s.extract x.p k) then 5 else 1) k) := by
  have e := one_let (s := s) (x := x) h
  rw [hk, if_pos hl, decide_eq_true hl] at e
  rw [scanL_step hp (by rw [e]), e]
theorem stop_name {s : ByteArray} {x : Sc} {f k : Nat} (hp : x.p < s.size) (h : letB (byteAt s x.p) = true) (hk : toN s true x.p = k) (hl : ¬ k - x.p ≤ 24) : scanL s (f + 1) x = (false, x) := by
  have e := one_let (s := s) (x := x) h
  rw [hk, if_neg hl, decide_eq_false hl] at e
  rw [scanL_stop hp (by rw [e]), e]
theorem one_dig {s : ByteArray} {x : Sc} (h : digB (byteAt s x.p) = true) : x.one s = (numB s x.p, if numB s x.p then x.add s 2 (toN s false x.p) else x) := by
  have h' := (dig_iff _).1 h
  rw [Sc.one, if_neg (by omega), if_neg (by omega), if_neg (by omega), if_neg (by omega), if_neg (by omega), if_pos h]
theorem step_num {s : ByteArray} {x : Sc} {f : Nat} (hp : x.p < s.size) (h : digB (byteAt s x.p) = true) (hn : numB s x.p = true) : scanL s (f + 1) x = scanL s f (x.add s 2 (toN s false x.p)) := by
  have e := one_dig (s := s) (x := x) h
  rw [hn, if_pos rfl] at e
  rw [scanL_step hp (by rw [e]), e]
theorem stop_num {s : ByteArray} {x : Sc} {f : Nat} (hp : x.p < s.size) (h : digB (byteAt s x.p) = true) (hn : numB s x.p = false) : scanL s (f + 1) x = (false, x) := by
  have e := one_dig (s := s) (x := x) h
  rw [hn, if_neg (by decide)] at e
  rw [scanL_stop hp (by rw [e]), e]
theorem one_quo {s : ByteArray} {x : Sc} (h : byteAt s x.p = 34) : x.one s = (strB s x.p, if strB s x.p then x.add s 3 (qN s (x.p + 1) + 1) else x) := by
  rw [Sc.one, if_neg (by omega), if_neg (by omega), if_neg (by omega), if_neg (by omega), if_pos h]
theorem step_quo {s : ByteArray} {x : Sc} {f : Nat} (hp : x.p < s.size) (h : byteAt s x.p = 34) (hn : strB s x.p = true) : scanL s (f + 1) x = scanL s f (x.add s 3 (qN s (x.p + 1) + 1)) := by
  have e := one_quo (s := s) (x := x) h
  rw [hn, if_pos rfl] at e
  rw [scanL_step hp (by rw [e]), e]
theorem stop_quo {s : ByteArray} {x : Sc} {f : Nat} (hp : x.p < s.size) (h : byteAt s x.p = 34) (hn : strB s x.p = false) : scanL s (f + 1) x = (false, x) := by
  have e := one_quo (s := s) (x := x) h
  rw [hn, if_neg (by decide)] at e
  rw [scanL_stop hp (by rw [e]), e]
/-- A plus. -/
theorem no_plus2 (t : ByteArray) (h : byteAt t 0 = 43) (h2 : t.size = 2) : isOp t = false := by
  cases hb : isOp t with
  | false => rfl
  | true =>
    exfalso
    have hm := inB_mem hb
    simp only [opsB, List.mem_cons, List.not_mem_nil, or_false] at hm
    rcases hm with rfl | rfl | rfl | rfl | rfl | rfl | rfl | rfl | rfl | rfl | rfl | rfl | rfl | rfl | rfl | rfl | rfl | rfl
    all_goals first | exact absurd h (by decide) | exact absurd h2 (by decide)
theorem step_plus {s : ByteArray} {x : Sc} {f : Nat} (hp : x.p < s.size) (h : byteAt s x.p = 43) (he : s.extract x.p (x.p + 1) = ⟨#[43]⟩) : scanL s (f + 1) x = scanL s f (x.add s 4 (x.p + 1)) := by
  have ho : opN s x.p = 1 := by
    unfold opN
    rw [he, show isOp ⟨#[43]⟩ = true from by decide]
    by_cases h2 : x.p + 2 ≤ s.size
    · rw [no_plus2 (s.extract x.p (x.p + 2)) (by rw [byteAt_sub s _ _ (by omega) (by omega)]; exact h) (by rw [ByteArray.size_extract]; omega), Bool.and_false]
      rfl
    · rw [decide_eq_false h2, Bool.false_and]
      rfl
  have e : x.one s = (true, x.add s 4 (x.p + 1)) := by
    rw [Sc.one, if_neg (by omega), if_neg (by omega), if_neg (by omega), if_neg (by omega), if_neg (by omega), h, show digB 43 = false from rfl, if_neg (by decide), show letB 43 = false from rfl, if_neg (by decide), ho]
    rfl
  rw [scanL_step hp (by rw [e]), e]
end Go.Proofs.Ytmhkmmcicfpakab
