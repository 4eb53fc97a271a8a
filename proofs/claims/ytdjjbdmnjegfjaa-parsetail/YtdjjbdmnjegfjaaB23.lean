/-
  5 texts in one.
-/
import Derived.Test.YtdjjbdmnjegfjaaB22
import Derived.KernelRfl
/-
  The law's begun: one file, one that is none.
-/
namespace Go.Proofs.Ytdjjbdmnjegfjaa
open Go.RowKit Go.Lib Go.Sort
set_option linter.unusedSimpArgs false
set_option linter.unusedVariables false
set_option maxRecDepth 100000
theorem bg_scan1 : (scanA ⟨#[112, 97, 99, 107, 97, 103, 101, 32, 112, 10, 118, 97, 114, 32, 120, 32, 105, 110, 116, 32, 61, 32, 49, 32, 43, 32, 50, 32, 42, 32, 121, 10]⟩).2.2 = -1 := by kernel_rfl
theorem bg_len1 : (scanA ⟨#[112, 97, 99, 107, 97, 103, 101, 32, 112, 10, 118, 97, 114, 32, 120, 32, 105, 110, 116, 32, 61, 32, 49, 32, 43, 32, 50, 32, 42, 32, 121, 10]⟩).1.length = 14 := by kernel_rfl
theorem bg_fil1 : filA (scanA ⟨#[112, 97, 99, 107, 97, 103, 101, 32, 112, 10, 118, 97, 114, 32, 120, 32, 105, 110, 116, 32, 61, 32, 49, 32, 43, 32, 50, 32, 42, 32, 121, 10]⟩).1 60 = .ok ⟨1, 0, (.cons 2 1 .nil (.cons 4 4 (.cons 28 5 .nil (.cons 24 8 (.cons 21 7 .nil (.cons 24 10 (.cons 21 9 .nil (.cons 20 11 .nil .nil)) .nil)) .nil)) .nil))⟩ 14 := by kernel_rfl
theorem bg_kid1 : filU (scanA ⟨#[112, 97, 99, 107, 97, 103, 101, 32, 112, 10, 118, 97, 114, 32, 120, 32, 105, 110, 116, 32, 61, 32, 49, 32, 43, 32, 50, 32, 42, 32, 121, 10]⟩).1 60 0 = .ok (.cons 2 1 .nil (.cons 4 4 (.cons 28 5 .nil (.cons 24 8 (.cons 21 7 .nil (.cons 24 10 (.cons 21 9 .nil (.cons 20 11 .nil .nil)) .nil)) .nil)) .nil)) 14 := by kernel_rfl
theorem bg_scan2 : (scanA ⟨#[112, 97, 99, 107, 97, 103, 101, 32, 112, 10, 118, 97, 114, 32, 120, 32, 61, 32, 49, 10]⟩).2.2 = -1 := by kernel_rfl
theorem bg_len2 : (scanA ⟨#[112, 97, 99, 107, 97, 103, 101, 32, 112, 10, 118, 97, 114, 32, 120, 32, 61, 32, 49, 10]⟩).1.length = 9 := by kernel_rfl
theorem bg_fil2 : filA (scanA ⟨#[112, 97, 99, 107, 97, 103, 101, 32, 112, 10, 118, 97, 114, 32, 120, 32, 61, 32, 49, 10]⟩).1 60 = .bad 5 := by kernel_rfl
theorem bg_kid2 : filU (scanA ⟨#[112, 97, 99, 107, 97, 103, 101, 32, 112, 10, 118, 97, 114, 32, 120, 32, 61, 32, 49, 10]⟩).1 60 0 = .bad 5 := by kernel_rfl
theorem bg_at2 : (tkA (scanA ⟨#[112, 97, 99, 107, 97, 103, 101, 32, 112, 10, 118, 97, 114, 32, 120, 32, 61, 32, 49, 10]⟩).1 5).p = 16 := by kernel_rfl
theorem bg_one (w : World) : Calls Try.prog 11 #[.string ⟨#[112, 97, 99, 107, 97, 103, 101, 32, 112, 10, 118, 97, 114, 32, 120, 32, 105, 110, 116, 32, 61, 32, 49, 32, 43, 32, 50, 32, 42, 32, 121, 10]⟩] w fun e w' => ∃ (a : Option Addr) (m c : Nat) (v : Value), e = .returned (.tuple #[.agg #[.int .i64 1, .int .i64 0, .slice a m c], v, .int .i64 (-1)]) ∧ SlQ (fun x => w.heap.size ≤ x) w' a m c (.cons 2 1 .nil (.cons 4 4 (.cons 28 5 .nil (.cons 24 8 (.cons 21 7 .nil (.cons 24 10 (.cons 21 9 .nil (.cons 20 11 .nil .nil)) .nil)) .nil)) .nil)) ∧ (∃ a' c', v = .slice a' 14 c') ∧ Below w.heap.size w w' := by
  refine (paText_ok ⟨#[112, 97, 99, 107, 97, 103, 101, 32, 112, 10, 118, 97, 114, 32, 120, 32, 105, 110, 116, 32, 61, 32, 49, 32, 43, 32, 50, 32, 42, 32, 121, 10]⟩ w (by decide) (by rw [bg_scan1]; decide) (by rw [bg_len1]; decide) (by rw [bg_len1]; decide) (f := 60) (by decide) _ _ bg_fil1).mono ?_
  rintro e w' ⟨a, m, c, v, rfl, hs, hT, hb⟩
  obtain ⟨a', c', rfl, _⟩ := hT
  rw [bg_len1]
  exact ⟨a, m, c, _, rfl, hs, ⟨a', c', rfl⟩, hb⟩
theorem bg_two (w : World) : Calls Try.prog 11 #[.string ⟨#[112, 97, 99, 107, 97, 103, 101, 32, 112, 10, 118, 97, 114, 32, 120, 32, 61, 32, 49, 10]⟩] w fun e w' => e = .returned (.tuple #[.agg #[.int .i64 0, .int .i64 0, .slice none 0 0], .slice none 0 0, .int .i64 16]) ∧ Below w.heap.size w w' := by
  have h := paText_bad ⟨#[112, 97, 99, 107, 97, 103, 101, 32, 112, 10, 118, 97, 114, 32, 120, 32, 61, 32, 49, 10]⟩ w (by decide) (by rw [bg_scan2]; decide) (by rw [bg_len2]; decide) (by rw [bg_len2]; decide) (f := 60) (by decide) 5 (by rw [bg_len2]; decide) bg_fil2
  rw [bg_at2] at h
  exact h
set_option maxHeartbeats 4000000 in
theorem plBegun_any (w : World) : Calls Try.prog 8 #[] w fun e w' => e = .returned (.bool true) ∧ Below w.heap.size w w' := by
  have H1 := hide (bg_one w)
  have H2 := hide bg_two
  go_enter Try.func8, Try.ntmps8
  go_wp2_with fail
  refine (unhide H1).mono ?_
  rintro e W1 ⟨a, m, c, v, rfl, hs, ⟨a', c', rfl⟩, hb⟩
  have hb1 := hb.trans ((below_alloc W1 (.cells #[.int .i64 1, .int .i64 0, .slice a m c] 26 (0, 0))).mono hb.size)
  have hN := nblk_new W1 1 0 a m c
  have hs1 := hs.below (below_alloc W1 (.cells #[.int .i64 1, .int .i64 0, .slice a m c] 26 (0, 0)))
  clear hs hb H1
  replace hN := hide hN
  replace hs1 := hide hs1
  replace hb1 := hide hb1
  go_wp2_with fail
  refine (unhide H2 _).mono ?_
  rintro e W2 ⟨rfl, hb2⟩
  have hb3 := below_alloc W2 (.cells #[.int .i64 0, .int .i64 0, .slice none 0 0] 26 (0, 0))
  have hb4 := hb2.trans (hb3.mono hb2.size)
  have hN3 := (unhide hN).same (hb4.block _ (by simp))
  have hfin := hide (below3 (unhide hb1) hb4)
  have hs3 := (unhide hs1).below hb4
  obtain ⟨p0, p1, p2⟩ := hN3.box
  obtain ⟨e1, e2, e3, h3⟩ := hs3
  obtain rfl : m = 2 := e1
  obtain ⟨g1, o1, rfl, ht1, x0, x1, ⟨a2, n2, c2, x2, f1, f2, f3, h4⟩, y0, y1, ⟨a3, n3, c3, y2, f4, f5, f6, h5⟩, _⟩ := h3 (by decide)
  obtain rfl : n3 = 2 := f4
  obtain ⟨g2, o2, rfl, ht2, u0, u1, ⟨a4, n4, c4, u2, _⟩, v0, v1, ⟨a5, n5, c5, v2, _⟩, _⟩ := h5 (by decide)
  have hcap1 := e2.1
  have hcap2 := f5.1
  clear hN hs1 hb1 hb2 hb3 hb4 hN3 H2 h3 h4 h5 ht1 ht2
  go_wp2
  go_ret
  exact ⟨rfl, unhide hfin⟩
end Go.Proofs.Ytdjjbdmnjegfjaa
/-
  A byte, so many times; a text with one more behind it. No program.
-/
namespace Go.Proofs.Ytdjjbdmnjegfjaa
/-- So many bytes c. -/
def reps (c : UInt8) (n : Nat) : ByteArray := ⟨(List.replicate n c).toArray⟩
theorem reps_size (c : UInt8) (n : Nat) : (reps c n).size = n := by
  show (List.replicate n c).toArray.size = n
  simp
theorem reps_zero (c : UInt8) (s : ByteArray) : s ++ reps c 0 = s := by
  apply ByteArray.ext
  rw [ByteArray.data_append]
  show s.data ++ (List.replicate 0 c).toArray = s.data
  simp
theorem reps_succ (c : UInt8) (n : Nat) (s : ByteArray) : s ++ reps c n ++ ⟨#[c]⟩ = s ++ reps c (n + 1) := by
  apply ByteArray.ext
  rw [ByteArray.data_append, ByteArray.data_append, ByteArray.data_append]
  show s.data ++ (List.replicate n c).toArray ++ #[c] = s.data ++ (List.replicate (n + 1) c).toArray
  rw [Array.append_assoc]
  congr 1
  apply Array.ext'
  simp [← List.replicate_succ']
/-- What the program answers at a text. -/
def scanS (s : ByteArray) : List Tk × List Cm × Int := scanR s (bigF s (flt s))
end Go.Proofs.Ytdjjbdmnjegfjaa
/-
  Texts of known bytes cut into words, so many of one kind among them. No program.
-/
namespace Go.Proofs.Ytdjjbdmnjegfjaa
set_option linter.unusedVariables false
def bs (l : List UInt8) : ByteArray := ⟨l.toArray⟩
theorem bs_size (l : List UInt8) : (bs l).size = l.length := by
  show l.toArray.size = _
  simp
theorem bs_app (a b : List UInt8) : bs a ++ bs b = bs (a ++ b) := by
  apply ByteArray.ext
  rw [ByteArray.data_append]
  show a.toArray ++ b.toArray = (a ++ b).toArray
  simp
theorem byteAt_bs (l : List UInt8) (i : Nat) : byteAt (bs l) i = (l.getD i 0).toNat := by
  rw [byteAt_eq]
  show (l.toArray[i]?.getD 0).toNat = _
  simp [List.getD]
theorem extract_bs (l : List UInt8) (a b : Nat) : (bs l).extract a b = bs ((l.take b).drop a) := by
  apply ByteArray.ext
  rw [ByteArray.data_extract]
  show l.toArray.extract a b = ((l.take b).drop a).toArray
  apply Array.ext'
  simp [List.drop_take]
theorem reps_bs (c : UInt8) (n : Nat) : reps c n = bs (List.replicate n c) := rfl
/-- A byte of a text of three parts. -/
theorem getD3 (p : List UInt8) (n : Nat) (x : UInt8) (q : List UInt8) (i : Nat) : (p ++ List.replicate n x ++ q).getD i 0 = if i < p.length then p.getD i 0 else if i < p.length + n then x else q.getD (i - p.length - n) 0 := by
  simp only [List.getD]
  by_cases h1 : i < p.length
  · rw [if_pos h1, List.append_assoc, List.getElem?_append_left h1]
  · rw [if_neg h1, List.append_assoc, List.getElem?_append_right (by omega)]
    by_cases h2 : i < p.length + n
    · rw [if_pos h2, List.getElem?_append_left (by simp; omega), List.getElem?_replicate, if_pos (by omega)]
      rfl
    · rw [if_neg h2, List.getElem?_append_right (by simp; omega), List.length_replicate]
theorem toN_eq {s : ByteArray} {wd : Bool} : ∀ (d a k : Nat), k = a + d → k ≤ s.size → (∀ i, a ≤ i → i < k → clsB wd (byteAt s i) = true) → (k = s.size ∨ clsB wd (byteAt s k) = false) → toN s wd a = k := by
  intro d
  induction d with
  | zero =>
    intro a k h hk _ he
    obtain rfl : k = a := h
    rcases he with he | he
    · rw [toN_end (by omega)]
    · rw [toN_stop he]
  | succ d ih =>
    intro a k h hk hn he
    rw [toN_step (by omega) (hn a (Nat.le_refl _) (by omega))]
    exact ih (a + 1) k (by omega) hk (fun i h1 h2 => hn i (by omega) h2) he
theorem qN_eq {s : ByteArray} : ∀ (d a k : Nat), k = a + d → k ≤ s.size → (∀ i, a ≤ i → i < k → byteAt s i ≠ 34 ∧ byteAt s i ≠ 10) → (k = s.size ∨ byteAt s k = 34 ∨ byteAt s k = 10) → qN s a = k := by
  intro d
  induction d with
  | zero =>
    intro a k h hk _ he
    obtain rfl : k = a := h
    rcases he with he | he
    · rw [qN_end (by omega)]
    · rw [qN_stop he]
  | succ d ih =>
    intro a k h hk hn he
    have := hn a (Nat.le_refl _) (by omega)
    rw [qN_step (by omega) this.1 this.2]
    exact ih (a + 1) k (by omega) hk (fun i h1 h2 => hn i (by omega) h2) he
/-- ASCII that may be written has no fault. -/
theorem fltF_plain (s : ByteArray) (hs : ∀ i, i < s.size → (32 ≤ byteAt s i ∧ byteAt s i < 127) ∨ byteAt s i = 10) : ∀ (f pos : Nat), fltF s f pos = -1 := by
  intro f
  induction f with
  | zero => intro pos; rfl
  | succ f ih =>
    intro pos
    by_cases hp : pos < s.size
    · have hb := hs pos hp
      have hsh := dN_shape (s.size - pos) (byteAt s pos) (byteAt s (pos + 1)) (byteAt s (pos + 2)) (byteAt s (pos + 3)) (byteAt_lt _ _) (byteAt_lt _ _)
      have hbad : bad s pos = false := by
        have hc : ctl (byteAt s pos) = false := by
          unfold ctl
          rcases hb with h | h
          · have a1 : ¬ byteAt s pos < 32 := by omega
            have a2 : ¬ byteAt s pos = 127 := by omega
            simp [a1, a2]
          · simp [h]
        rw [show bad s pos = (ctl (byteAt s pos) || err s pos) from rfl, hc, Bool.false_or]
        unfold err errN
        rw [decide_eq_false (show ¬ 128 ≤ byteAt s pos by omega), Bool.and_false]
      simp only [fltF, hp, if_true, hbad, Bool.false_eq_true, if_false]
      exact ih _
    · exact fltF_end s _ pos hp
theorem flt_plain (s : ByteArray) (hs : ∀ i, i < s.size → (32 ≤ byteAt s i ∧ byteAt s i < 127) ∨ byteAt s i = 10) : flt s = -1 := fltF_plain s hs _ _
theorem scanS_plain (s : ByteArray) (hs : ∀ i, i < s.size → (32 ≤ byteAt s i ∧ byteAt s i < 127) ∨ byteAt s i = 10) (h2 : s.size ≤ 2000) : scanS s = scanR s (-1) := by
  rw [scanS, flt_plain s hs, bigF, if_neg (by omega)]
/-- One step. -/
theorem step_blank {s : ByteArray} {x : Sc} {f : Nat} (hp : x.p < s.size) (h : byteAt s x.p = 32) : scanL s (f + 1) x = scanL s f ⟨x.p + 1, x.line, x.l, x.c⟩ := by
  have e : x.one s = (true, ⟨x.p + 1, x.line, x.l, x.c⟩) := by rw [Sc.one, if_pos (.inl h)]
  rw [scanL_step hp (by rw [e]), e]
theorem step_nl {s : ByteArray} {x : Sc} {f : Nat} (hp : x.p < s.size) (h : byteAt s x.p = 10) : scanL s (f + 1) x = scanL s f ⟨x.p + 1, x.line + 1, x.semi.l, x.c⟩ := by
  have e : x.one s = (true, ⟨x.p + 1, x.line + 1, x.semi.l, x.c⟩) := by rw [Sc.one, if_neg (by omega), if_pos h]
  rw [scanL_step hp (by rw [e]), e]
theorem step_com {s : ByteArray} {x : Sc} {f : Nat} (hp : x.p < s.size) (h : byteAt s x.p = 47) (h1 : x.p + 1 < s.size) (h2 : byteAt s (x.p + 1) = 47) : scanL s (f + 1) x = scanL s f (x.com s) := by
  have hc : x.isCom s = true := by rw [Sc.isCom, decide_eq_true h1, decide_eq_true h2]; rfl
  have e : x.one s = (true, x.com s) := by rw [Sc.one, if_neg (by omega), if_neg (by omega), if_neg (by omega), if_pos h, hc, Sc.comment, if_pos hc]
  rw [scanL_step hp (by rw [e]), e]
theorem let_not {c : Nat} (h : letB c = true) : c ≠ 32 ∧ c ≠ 9 ∧ c ≠ 10 ∧ c ≠ 59 ∧ c ≠ 47 ∧ c ≠ 34 ∧ digB c = false := by
  have h := (let_iff c).1 h
  have hd : digB c = false := is_false (dig_iff c) (by omega)
  exact ⟨by omega, by omega, by omega, by omega, by omega, by omega, hd⟩
theorem one_let {s : ByteArray} {x : Sc} (h : letB (byteAt s x.p) = true) : x.one s = (decide (toN s true x.p - x.p ≤ 24), if toN s true x.p - x.p ≤ 24 then x.add s (if isKey (s.extract x.p (toN s true x.p)) then 5 else 1) (toN s true x.p) else x) := by
  obtain ⟨h1, h2, h3, h4, h5, h6, h7⟩ := let_not h
  rw [Sc.one, if_neg (by omega), if_neg h3, if_neg h4, if_neg h5, if_neg h6, h7, if_neg (by decide), if_pos h]
theorem step_name {s : ByteArray} {x : Sc} {f k : Nat} (hp : x.p < s.size) (h : letB (byteAt s x.p) = true) (hk : toN s true x.p = k) (hl : k - x.p ≤ 24) : scanL s (f + 1) x = scanL s f (x.add s (if isKey (s.extract x.p k) then 5 else 1) k) := by
  have e := one_let (s := s) (x := x) h
  rw [hk, if_pos hl, decide_eq_true hl] at e
  rw [scanL_step hp (by rw [e]), e]
theorem stop_name {s : ByteArray} {x : Sc} {f k : Nat} (hp : x.p < s.size) (h : letB (byteAt s x.p) = true) (hk : toN s true x.p = k) (hl : ¬ k - x.p ≤ 24) : scanL s (f + 1) x = (false, x) := by
  have e := one_let (s := s) (x := x) h
  rw [hk, if_neg hl, decide_eq_false hl] at e
  rw [scanL_stop hp (by rw [e]), e]
theorem one_dig {s : ByteArray} {x : Sc} (h : digB (byteAt s x.p) = true) : x.one s = (numB s x.p, if numB s x.p then x.add s 2 (toN s false x.p) else x) := by
  have h' := (dig_iff _).1 h
  rw [Sc.one, if_neg (by omega), if_neg (by omega), if_neg (by omega), if_neg (by omega), if_neg (by omega), if_pos h]
theorem step_num {s : ByteArray} {x : Sc} {f : Nat} (hp : x.p < s.size) (h : digB (byteAt s x.p) = true) (hn : numB s x.p = true) : scanL s (f + 1) x = scanL s f (x.add s 2 (toN s false x.p)) := by
  have e := one_dig (s := s) (x := x) h
  rw [hn, if_pos rfl] at e
  rw [scanL_step hp (by rw [e]), e]
theorem stop_num {s : ByteArray} {x : Sc} {f : Nat} (hp : x.p < s.size) (h : digB (byteAt s x.p) = true) (hn : numB s x.p = false) : scanL s (f + 1) x = (false, x) := by
  have e := one_dig (s := s) (x := x) h
  rw [hn, if_neg (by decide)] at e
  rw [scanL_stop hp (by rw [e]), e]
theorem one_quo {s : ByteArray} {x : Sc} (h : byteAt s x.p = 34) : x.one s = (strB s x.p, if strB s x.p then x.add s 3 (qN s (x.p + 1) + 1) else x) := by
  rw [Sc.one, if_neg (by omega), if_neg (by omega), if_neg (by omega), if_neg (by omega), if_pos h]
theorem step_quo {s : ByteArray} {x : Sc} {f : Nat} (hp : x.p < s.size) (h : byteAt s x.p = 34) (hn : strB s x.p = true) : scanL s (f + 1) x = scanL s f (x.add s 3 (qN s (x.p + 1) + 1)) := by
  have e := one_quo (s := s) (x := x) h
  rw [hn, if_pos rfl] at e
  rw [scanL_step hp (by rw [e]), e]
theorem stop_quo {s : ByteArray} {x : Sc} {f : Nat} (hp : x.p < s.size) (h : byteAt s x.p = 34) (hn : strB s x.p = false) : scanL s (f + 1) x = (false, x) := by
  have e := one_quo (s := s) (x := x) h
  rw [hn, if_neg (by decide)] at e
  rw [scanL_stop hp (by rw [e]), e]
/-- A plus. -/
theorem no_plus2 (t : ByteArray) (h : byteAt t 0 = 43) (h2 : t.size = 2) : isOp t = false := by
  cases hb : isOp t with
  | false => rfl
  | true =>
    exfalso
    have hm := inB_mem hb
    simp only [opsB, List.mem_cons, List.not_mem_nil, or_false] at hm
    rcases hm with rfl | rfl | rfl | rfl | rfl | rfl | rfl | rfl | rfl | rfl | rfl | rfl | rfl | rfl | rfl | rfl | rfl | rfl
    all_goals first | exact absurd h (by decide) | exact absurd h2 (by decide)
theorem step_plus {s : ByteArray} {x : Sc} {f : Nat} (hp : x.p < s.size) (h : byteAt s x.p = 43) (he : s.extract x.p (x.p + 1) = ⟨#[43]⟩) : scanL s (f + 1) x = scanL s f (x.add s 4 (x.p + 1)) := by
  have ho : opN s x.p = 1 := by
    unfold opN
    rw [he, show isOp ⟨#[43]⟩ = true from by decide]
    by_cases h2 : x.p + 2 ≤ s.size
    · rw [no_plus2 (s.extract x.p (x.p + 2)) (by rw [byteAt_sub s _ _ (by omega) (by omega)]; exact h) (by rw [ByteArray.size_extract]; omega), Bool.and_false]
      rfl
    · rw [decide_eq_false h2, Bool.false_and]
      rfl
  have e : x.one s = (true, x.add s 4 (x.p + 1)) := by
    rw [Sc.one, if_neg (by omega), if_neg (by omega), if_neg (by omega), if_neg (by omega), if_neg (by omega), h, show digB 43 = false from rfl, if_neg (by decide), show letB 43 = false from rfl, if_neg (by decide), ho]
    rfl
  rw [scanL_step hp (by rw [e]), e]
end Go.Proofs.Ytdjjbdmnjegfjaa
/-
  What the laws over the parser share.
-/
namespace Go.Proofs.Ytdjjbdmnjegfjaa
open Go.RowKit Go.Lib Go.Sort
set_option linter.unusedSimpArgs false
set_option linter.unusedVariables false
/-- The text about an expression. -/
def preE : List UInt8 := [112, 97, 99, 107, 97, 103, 101, 32, 112, 10, 118, 97, 114, 32, 120, 32, 105, 110, 116, 32, 61, 32]
def exT (s : List UInt8) : ByteArray := bs (preE ++ s ++ [10])
/-- A file of one var with this expression. -/
def exF (x : Nd) : F := .cons 2 1 .nil (.cons 4 4 (.cons 28 5 .nil (.cons x.k x.t x.c .nil)) .nil)
/-- A box is written: all else stays. -/
theorem box_heap (W : World) (b : Nat) (k t : Int) (a : Option Addr) (n cap : Nat) : ∀ x, x ≠ b → (((W.setCell ⟨b, 0, none⟩ (.int .i64 k)).setCell ⟨b, 1, none⟩ (.int .i64 t)).setCell ⟨b, 2, none⟩ (.slice a n cap)).heap[x]? = W.heap[x]? := fun x hx => by
  rw [Below.heap_setCell _ _ _ x hx, Below.heap_setCell _ _ _ x hx, Below.heap_setCell _ _ _ x hx]
theorem toks_box {W W' : World} {v : Value} {L : List Tk} {b : Nat} {k t : Int} {a : Option Addr} {n cap : Nat} (h : Toks W v L) (hN : NBlk W b k t a n cap) (hs : W.heap.size ≤ W'.heap.size) (hh : ∀ x, x ≠ b → W'.heap[x]? = W.heap[x]?) : Toks W' v L := by
  obtain ⟨a9, c9, e9, k1, k2, k3⟩ := h
  refine ⟨a9, c9, e9, k1, k2, fun h0 => ?_⟩
  obtain ⟨g9, rfl, hg9, hc9⟩ := k3 h0
  have hne : g9 ≠ b := fun hE => by
    have := (hc9 0 _ (List.getElem?_eq_getElem h0)).2.1
    rw [hE] at this
    simp only [Nat.zero_mul, Nat.zero_add] at this
    rw [hN.box.2.1] at this
    cases this
  refine ⟨g9, rfl, Nat.lt_of_lt_of_le hg9 hs, fun i t hi => ?_⟩
  obtain ⟨j0, j1, j2, j3, j4⟩ := hc9 i t hi
  have h9 := hh g9 hne
  exact ⟨(World.cell?_of_block (a := ⟨g9, i * 5, none⟩) h9).trans j0, (World.cell?_of_block (a := ⟨g9, i * 5 + 1, none⟩) h9).trans j1, (World.cell?_of_block (a := ⟨g9, i * 5 + 2, none⟩) h9).trans j2, (World.cell?_of_block (a := ⟨g9, i * 5 + 3, none⟩) h9).trans j3, (World.cell?_of_block (a := ⟨g9, i * 5 + 4, none⟩) h9).trans j4⟩
theorem PR.bind_assoc {α β γ : Type} (r : PR α) (f : α → Nat → PR β) (g : β → Nat → PR γ) : (r.bind f).bind g = r.bind fun v i => (f v i).bind g := by
  cases r <;> rfl
theorem wantA_bind {α β : Type} (b : Bool) (i : Nat) (r : PR α) (f : α → Nat → PR β) : (wantA b i r).bind f = wantA b i (r.bind f) := by
  cases b <;> rfl
theorem filG_bind (L : List Tk) (f i : Nat) : filG L f i = (filU L f i).bind fun l o => .ok ⟨1, 0, l⟩ o := by
  unfold filG filU
  rw [wantA_bind, PR.bind_assoc]
  congr 2
  funext n j
  rw [PR.bind_assoc]
  congr 1
  funext _ k
  rw [PR.bind_assoc]
  congr 1
  funext l m
  rw [PR.bind_assoc]
  congr 1
  funext l' o
  rw [wantA_bind]
  rfl
/-- Its kids are the file's. -/
theorem filA_ok {L : List Tk} {f o : Nat} {l : F} (h : filU L f 0 = .ok l o) : filA L f = .ok ⟨1, 0, l⟩ o := by
  rw [← filG_zero, filG_bind, h]
  simp only [PR.bind]
theorem filA_bad {L : List Tk} {f j : Nat} (h : filU L f 0 = .bad j) : filA L f = .bad j := by
  rw [← filG_zero, filG_bind, h]
  rfl
/-- A node in a box of its own, what is beneath it, and the words. -/
def BoxT (w0 w : World) (b : Nat) (k t : Int) (a : Option Addr) (m c : Nat) (f : F) (v : Value) (L : List Tk) : Prop := NBlk w b k t a m c ∧ SlQ (fun y => w0.heap.size ≤ y) w a m c f ∧ Toks w v L ∧ Below w0.heap.size w0 w
theorem BoxT.below {w0 w w' : World} {b : Nat} {k t : Int} {a : Option Addr} {m c : Nat} {f : F} {v : Value} {L : List Tk} (h : BoxT w0 w b k t a m c f v L) (hb : Below w.heap.size w w') : BoxT w0 w' b k t a m c f v L :=
  ⟨h.1.same (hb.block b h.1.lt), h.2.1.below hb, h.2.2.1.below hb, h.2.2.2.trans (hb.mono h.2.2.2.size)⟩
/-- The bytes of a text, said of its list. -/
theorem eq_bs {s : ByteArray} {l : List UInt8} (h : s.data.toList = l) : s = bs l := by
  cases s with
  | mk d =>
    subst h
    simp [bs]
theorem bs_toList (l : List UInt8) : (bs l).toList = l := by
  rw [ByteArray.toList_eq]
  simp [bs]
end Go.Proofs.Ytdjjbdmnjegfjaa
/-
  The law's expr: a var's expression.
-/
namespace Go.Proofs.Ytdjjbdmnjegfjaa
open Go.RowKit Go.Lib Go.Sort
set_option linter.unusedSimpArgs false
set_option linter.unusedVariables false
set_option maxHeartbeats 4000000 in
set_option maxRecDepth 100000 in
theorem plExpr_any (s : List UInt8) (w : World) (hs : s.length ≤ 600000) {f : Nat} (hf : f ≤ 900000) (x : Nd) (o : Nat) (hL : (scanA (exT s)).1.length ≤ 1000000) (h0 : (scanA (exT s)).2.2 = -1) (h1 : filU (scanA (exT s)).1 f 0 = .ok (exF x) o) (h2 : filA (scanA (exT s)).1 f = .ok ⟨1, 0, exF x⟩ o) (h3 : 0 < (scanA (exT s)).1.length) :
    Calls Try.prog 9 #[.string (bs s)] w fun e w' => ∃ (a : Option Addr) (m c : Nat) (v : Value), e = .returned (.tuple #[.agg #[.int .i64 x.k, .int .i64 x.t, .slice a m c], v, .bool true]) ∧ SlQ (fun y => w.heap.size ≤ y) w' a m c x.c ∧ Toks w' v (scanA (exT s)).1 ∧ Below w.heap.size w w' := by
  have H1 := paText_ok (exT s) (w.alloc (.cells #[.int .i64 0, .int .i64 0, .slice none 0 0] 26 (0, 0))) (by simp only [exT, bs_size, preE, List.length_append, List.length_cons, List.length_nil]; omega) (by rw [h0]; decide) h3 hL hf _ _ h2
  have hT : (⟨#[112, 97, 99, 107, 97, 103, 101, 32, 112, 10, 118, 97, 114, 32, 120, 32, 105, 110, 116, 32, 61, 32]⟩ : ByteArray) ++ bs s ++ ⟨#[10]⟩ = exT s := by
    show bs preE ++ bs s ++ bs [10] = _
    rw [bs_app, bs_app]
    rfl
  have hA := below_alloc w (.cells #[.int .i64 0, .int .i64 0, .slice none 0 0] 26 (0, 0))
  have hN := nblk_new w 0 0 none 0 0
  have hsz : (w.alloc (.cells #[.int .i64 0, .int .i64 0, .slice none 0 0] 26 (0, 0))).heap.size = w.heap.size + 1 := by simp
  clear h0 h1 h2
  have hz : (exT s).size = s.length + 23 := by simp [exT, bs_size, preE]
  generalize scanA (exT s) = R at *
  generalize hS : bs s = S at *
  have hz2 : S.size = s.length := by rw [← hS, bs_size]
  clear hS
  generalize exT s = T at *
  replace H1 := hide H1
  go_enter Try.func9, Try.ntmps9
  go_wp2_with fail
  refine (unhide H1).mono ?_
  rintro e W2 ⟨a, m, c, v, rfl, hs2, hTk, hb⟩
  dsimp only at hs2 ⊢
  clear H1 hT
  have hbx := below_alloc W2 (.cells #[.int .i64 1, .int .i64 0, .slice a m c] 26 (0, 0))
  have hB := (hA.trans (hb.mono (by omega))).trans (hbx.mono (by have := hb.size; omega))
  have hN3 := (hN.same (hb.block _ (by omega))).same (hbx.block _ (by have := hb.size; omega))
  obtain ⟨q0, q1, q2⟩ := (nblk_new W2 1 0 a m c).box
  have hs3 := hs2.below hbx
  have hT3 := hTk.below hbx
  obtain ⟨e1, e2, e3, h3⟩ := hs3
  obtain rfl : m = 2 := e1
  obtain ⟨g1, o1, rfl, ht1, x0, x1, ⟨a2, n2, c2, x2, f1, f2, f3, h4⟩, y0, y1, ⟨a3, n3, c3, y2, f4, f5, f6, h5⟩, _⟩ := h3 (by decide)
  obtain rfl : n3 = 2 := f4
  obtain ⟨g2, o2, rfl, ht2, u0, u1, ⟨a4, n4, c4, u2, _⟩, v0, v1, ⟨a5, n5, c5, v2, hs5⟩, _⟩ := h5 (by decide)
  have hcap1 := e2.1
  have hcap2 := f5.1
  have r0 := hN3.frozen 0
  have r1 := hN3.frozen 1
  have r2 := hN3.frozen 2
  obtain ⟨p0, p1, p2⟩ := hN3.box
  have hb0 := box_heap (W2.alloc (.cells #[.int .i64 1, .int .i64 0, .slice (some ⟨g1, o1, none⟩) 2 c] 26 (0, 0))) w.heap.size x.k x.t a5 n5 c5
  have hs6 : SlQ (fun y => (w.alloc (.cells #[.int .i64 0, .int .i64 0, .slice none 0 0] 26 (0, 0))).heap.size ≤ y) (W2.alloc (.cells #[.int .i64 1, .int .i64 0, .slice (some ⟨g1, o1, none⟩) 2 c] 26 (0, 0))) a5 n5 c5 x.c := hs5
  have hfin := hide (And.intro (hs6.keep (fun y hy => hb0 y (by have := hy.1; omega))) (And.intro (toks_box hT3 hN3 (by simp) hb0) (((hB.setCell (p := ⟨w.heap.size, 0, none⟩) (Nat.le_refl _) (.int .i64 x.k)).setCell (p := ⟨w.heap.size, 1, none⟩) (Nat.le_refl _) (.int .i64 x.t)).setCell (p := ⟨w.heap.size, 2, none⟩) (Nat.le_refl _) (.slice a5 n5 c5))))
  have hN6 := hide (hN3.set3 (k' := x.k) (t' := x.t) (a' := a5) (n' := n5) (cap' := c5))
  clear hA hN hs2 hTk hb hbx hB hN3 hT3 hs5 hs6 hb0 h3 h4 h5 ht1 ht2
  go_wp2
  obtain ⟨w0, w1, w2⟩ := (unhide hN6).box
  refine bodyPost_ret (v := .tuple #[.agg #[.int .i64 x.k, .int .i64 x.t, .slice a5 n5 c5], v, .bool true]) (by simp [results, Try.results9, go_sem, w0, w1, w2]) rfl ⟨a5, n5, c5, v, rfl, (unhide hfin).1.mono (fun y hy => by have := hy.1; omega), (unhide hfin).2⟩
theorem plExpr_of (s : List UInt8) (w : World) (hs : s.length ≤ 600000) {f : Nat} (hf : f ≤ 900000) (x : Nd) (o : Nat) (hL : (scanA (exT s)).1.length ≤ 1000000) (h0 : (scanA (exT s)).2.2 = -1) (h1 : filU (scanA (exT s)).1 f 0 = .ok (exF x) o) (h3 : 0 < (scanA (exT s)).1.length) :
    Calls Try.prog 9 #[.string (bs s)] w fun e w' => ∃ (a : Option Addr) (m c : Nat) (v : Value), e = .returned (.tuple #[.agg #[.int .i64 x.k, .int .i64 x.t, .slice a m c], v, .bool true]) ∧ SlQ (fun y => w.heap.size ≤ y) w' a m c x.c ∧ Toks w' v (scanA (exT s)).1 ∧ Below w.heap.size w w' :=
  plExpr_any s w hs hf x o hL h0 h1 (filA_ok h1) h3
end Go.Proofs.Ytdjjbdmnjegfjaa
