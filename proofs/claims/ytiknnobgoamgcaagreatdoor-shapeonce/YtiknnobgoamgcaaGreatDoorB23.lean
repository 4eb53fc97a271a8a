/-
  8 texts in one.
-/
import Derived.Test.YtiknnobgoamgcaaGreatDoorB22
import Derived.KernelRfl
import Derived.Test.YtiknnobgoamgcaaGreatDoorB02
import Derived.Test.YtiknnobgoamgcaaGreatDoorB01
import Derived.Deep.LoopGhost
import Derived.WalkSmall
import Derived.Deep.DeepCutAuto
import Derived.Lib.LaidTab
import Derived.LaidMore
import Derived.ProofKit
import Derived.Shelf.Strings.BuilderK
import Derived.Lib.FrozenHead2
import Derived.Deep.AppendLies
import Derived.Laws.OwnMore
/-
  Texts of known bytes cut into words, so many of one kind among them. No program.
-/
namespace Go.Proofs.YtiknnobgoamgcaaGreatDoor
set_option linter.unusedVariables false
def bs (l : List UInt8) : ByteArray := ⟨l.toArray⟩
theorem bs_size (l : List UInt8) : (bs l).size = l.length := by
 show l.toArray.size = _
 simp
theorem bs_app (a b : List UInt8) : bs a ++ bs b = bs (a ++ b) := by
 apply ByteArray.ext
 rw [ByteArray.data_append]
 show a.toArray ++ b.toArray = (a ++ b).toArray
 simp
theorem byteAt_bs (l : List UInt8) (i : Nat) : byteAt (bs l) i = (l.getD i 0).toNat := by
 rw [byteAt_eq]
 show (l.toArray[i]?.getD 0).toNat = _
 simp [List.getD]
theorem extract_bs (l : List UInt8) (a b : Nat) : (bs l).extract a b = bs ((l.take b).drop a) := by
 apply ByteArray.ext
 rw [ByteArray.data_extract]
 show l.toArray.extract a b = ((l.take b).drop a).toArray
 apply Array.ext'
 simp [List.drop_take]
theorem reps_bs (c : UInt8) (n : Nat) : reps c n = bs (List.replicate n c) := rfl
/-- A byte of a text of three parts. -/
theorem getD3 (p : List UInt8) (n : Nat) (x : UInt8) (q : List UInt8) (i : Nat) : (p ++ List.replicate n x ++ q).getD i 0 = if i < p.length then p.getD i 0 else if i < p.length + n then x else q.getD (i - p.length - n) 0 := by
 simp only [List.getD]
 by_cases h1 : i < p.length
 ·
  rw [if_pos h1, List.append_assoc, List.getElem?_append_left h1]
 ·
  rw [if_neg h1, List.append_assoc, List.getElem?_append_right (by omega)]
  by_cases h2 : i < p.length + n
  ·
   rw [if_pos h2, List.getElem?_append_left (by simp; omega), List.getElem?_replicate, if_pos (by omega)]
   rfl
  ·
   rw [if_neg h2, List.getElem?_append_right (by simp; omega), List.length_replicate]
theorem toN_eq {s : ByteArray} {wd : Bool} : ∀ (d a k : Nat), k = a + d → k ≤ s.size → (∀ i, a ≤ i → i < k → clsB wd (byteAt s i) = true) → (k = s.size ∨ clsB wd (byteAt s k) = false) → toN s wd a = k := by
 intro d
 induction d with
 | zero =>
  intro a k h hk _ he
  obtain rfl : k = a := h
  rcases he with he | he
  ·
   rw [toN_end (by omega)]
  ·
   rw [toN_stop he]
 | succ d ih =>
  intro a k h hk hn he
  rw [toN_step (by omega) (hn a (Nat.le_refl _) (by omega))]
  exact ih (a + 1) k (by omega) hk (fun i h1 h2 => hn i (by omega) h2) he
theorem qN_eq {s : ByteArray} : ∀ (d a k : Nat), k = a + d → k ≤ s.size → (∀ i, a ≤ i → i < k → byteAt s i ≠ 34 ∧ byteAt s i ≠ 10) → (k = s.size ∨ byteAt s k = 34 ∨ byteAt s k = 10) → qN s a = k := by
 intro d
 induction d with
 | zero =>
  intro a k h hk _ he
  obtain rfl : k = a := h
  rcases he with he | he
  ·
   rw [qN_end (by omega)]
  ·
   rw [qN_stop he]
 | succ d ih =>
  intro a k h hk hn he
  have := hn a (Nat.le_refl _) (by omega)
  rw [qN_step (by omega) this.1 this.2]
  exact ih (a + 1) k (by omega) hk (fun i h1 h2 => hn i (by omega) h2) he
/-- ASCII that may be written has no fault. -/
theorem fltF_plain (s : ByteArray) (hs : ∀ i, i < s.size → (32 ≤ byteAt s i ∧ byteAt s i < 127) ∨ byteAt s i = 10) : ∀ (f pos : Nat), fltF s f pos = -1 := by
 intro f
 induction f with
 | zero => intro pos; rfl
 | succ f ih =>
  intro pos
  by_cases hp : pos < s.size
  ·
   have hb := hs pos hp
   have hsh := dN_shape (s.size - pos) (byteAt s pos) (byteAt s (pos + 1)) (byteAt s (pos + 2)) (byteAt s (pos + 3)) (byteAt_lt _ _) (byteAt_lt _ _)
   have hbad : bad s pos = false := by
    have hc : ctl (byteAt s pos) = false := by
     unfold ctl
     rcases hb with h | h
     ·
      have a1 : ¬ byteAt s pos < 32 := by omega
      have a2 : ¬ byteAt s pos = 127 := by omega
      simp [a1, a2]
     ·
      simp [h]
    rw [show bad s pos = (ctl (byteAt s pos) || err s pos) from rfl, hc, Bool.false_or]
    unfold err errN
    rw [decide_eq_false (show ¬ 128 ≤ byteAt s pos by omega), Bool.and_false]
   simp only [fltF, hp, if_true, hbad, Bool.false_eq_true, if_false]
   exact ih _
  ·
   exact fltF_end s _ pos hp
theorem flt_plain (s : ByteArray) (hs : ∀ i, i < s.size → (32 ≤ byteAt s i ∧ byteAt s i < 127) ∨ byteAt s i = 10) : flt s = -1 := fltF_plain s hs _ _
theorem scanS_plain (s : ByteArray) (hs : ∀ i, i < s.size → (32 ≤ byteAt s i ∧ byteAt s i < 127) ∨ byteAt s i = 10) (h2 : s.size ≤ 2000) : scanS s = scanR s (-1) := by
 rw [scanS, flt_plain s hs, bigF, if_neg (by omega)]
/-- One step. -/
theorem step_blank {s : ByteArray} {x : Sc} {f : Nat} (hp : x.p < s.size) (h : byteAt s x.p = 32) : scanL s (f + 1) x = scanL s f ⟨x.p + 1, x.line, x.l, x.c⟩ := by
 have e : x.one s = (true, ⟨x.p + 1, x.line, x.l, x.c⟩) := by rw [Sc.one, if_pos (.inl h)]
 rw [scanL_step hp (by rw [e]), e]
theorem step_nl {s : ByteArray} {x : Sc} {f : Nat} (hp : x.p < s.size) (h : byteAt s x.p = 10) : scanL s (f + 1) x = scanL s f ⟨x.p + 1, x.line + 1, x.semi.l, x.c⟩ := by
 have e : x.one s = (true, ⟨x.p + 1, x.line + 1, x.semi.l, x.c⟩) := by rw [Sc.one, if_neg (by omega), if_pos h]
 rw [scanL_step hp (by rw [e]), e]
theorem step_com {s : ByteArray} {x : Sc} {f : Nat} (hp : x.p < s.size) (h : byteAt s x.p = 47) (h1 : x.p + 1 < s.size) (h2 : byteAt s (x.p + 1) = 47) : scanL s (f + 1) x = scanL s f (x.com s) := by
 have hc : x.isCom s = true := by rw [Sc.isCom, decide_eq_true h1, decide_eq_true h2]; rfl
 have e : x.one s = (true, x.com s) := by rw [Sc.one, if_neg (by omega), if_neg (by omega), if_neg (by omega), if_pos h, hc, Sc.comment, if_pos hc]
 rw [scanL_step hp (by rw [e]), e]
theorem let_not {c : Nat} (h : letB c = true) : c ≠ 32 ∧ c ≠ 9 ∧ c ≠ 10 ∧ c ≠ 59 ∧ c ≠ 47 ∧ c ≠ 34 ∧ digB c = false := by
 have h := (let_iff c).1 h
 have hd : digB c = false := is_false (dig_iff c) (by omega)
 exact ⟨by omega, by omega, by omega, by omega, by omega, by omega, hd⟩
theorem one_let {s : ByteArray} {x : Sc} (h : letB (byteAt s x.p) = true) : x.one s = (decide (toN s true x.p - x.p ≤ 24), if toN s true x.p - x.p ≤ 24 then x.add s (if isKey (s.extract x.p (toN s true x.p)) then 5 else 1) (toN s true x.p) else x) := by
 obtain ⟨h1, h2, h3, h4, h5, h6, h7⟩ := let_not h
 rw [Sc.one, if_neg (by omega), if_neg h3, if_neg h4, if_neg h5, if_neg h6, h7, if_neg (by decide), if_pos h]
theorem step_name {s : ByteArray} {x : Sc} {f k : Nat} (hp : x.p < s.size) (h : letB (byteAt s x.p) = true) (hk : toN s true x.p = k) (hl : k - x.p ≤ 24) : scanL s (f + 1) x = scanL s f (x.add s (if isKey (s.extract x.p k) then 5 else 1) k) := by
 have e := one_let (s := s) (x := x) h
 rw [hk, if_pos hl, decide_eq_true hl] at e
 rw [scanL_step hp (by rw [e]), e]
theorem stop_name {s : ByteArray} {x : Sc} {f k : Nat} (hp : x.p < s.size) (h : letB (byteAt s x.p) = true) (hk : toN s true x.p = k) (hl : ¬ k - x.p ≤ 24) : scanL s (f + 1) x = (false, x) := by
 have e := one_let (s := s) (x := x) h
 rw [hk, if_neg hl, decide_eq_false hl] at e
 rw [scanL_stop hp (by rw [e]), e]
theorem one_dig {s : ByteArray} {x : Sc} (h : digB (byteAt s x.p) = true) : x.one s = (numB s x.p, if numB s x.p then x.add s 2 (toN s false x.p) else x) := by
 have h' := (dig_iff _).1 h
 rw [Sc.one, if_neg (by omega), if_neg (by omega), if_neg (by omega), if_neg (by omega), if_neg (by omega), if_pos h]
theorem step_num {s : ByteArray} {x : Sc} {f : Nat} (hp : x.p < s.size) (h : digB (byteAt s x.p) = true) (hn : numB s x.p = true) : scanL s (f + 1) x = scanL s f (x.add s 2 (toN s false x.p)) := by
 have e := one_dig (s := s) (x := x) h
 rw [hn, if_pos rfl] at e
 rw [scanL_step hp (by rw [e]), e]
theorem stop_num {s : ByteArray} {x : Sc} {f : Nat} (hp : x.p < s.size) (h : digB (byteAt s x.p) = true) (hn : numB s x.p = false) : scanL s (f + 1) x = (false, x) := by
 have e := one_dig (s := s) (x := x) h
 rw [hn, if_neg (by decide)] at e
 rw [scanL_stop hp (by rw [e]), e]
theorem one_quo {s : ByteArray} {x : Sc} (h : byteAt s x.p = 34) : x.one s = (strB s x.p, if strB s x.p then x.add s 3 (qN s (x.p + 1) + 1) else x) := by
 rw [Sc.one, if_neg (by omega), if_neg (by omega), if_neg (by omega), if_neg (by omega), if_pos h]
theorem step_quo {s : ByteArray} {x : Sc} {f : Nat} (hp : x.p < s.size) (h : byteAt s x.p = 34) (hn : strB s x.p = true) : scanL s (f + 1) x = scanL s f (x.add s 3 (qN s (x.p + 1) + 1)) := by
 have e := one_quo (s := s) (x := x) h
 rw [hn, if_pos rfl] at e
 rw [scanL_step hp (by rw [e]), e]
theorem stop_quo {s : ByteArray} {x : Sc} {f : Nat} (hp : x.p < s.size) (h : byteAt s x.p = 34) (hn : strB s x.p = false) : scanL s (f + 1) x = (false, x) := by
 have e := one_quo (s := s) (x := x) h
 rw [hn, if_neg (by decide)] at e
 rw [scanL_stop hp (by rw [e]), e]
/-- A plus. -/
theorem no_plus2 (t : ByteArray) (h : byteAt t 0 = 43) (h2 : t.size = 2) : isOp t = false := by
 cases hb : isOp t with
 | false => rfl
 | true =>
  exfalso
  have hm := inB_mem hb
  simp only [opsB, List.mem_cons, List.not_mem_nil, or_false] at hm
  rcases hm with rfl | rfl | rfl | rfl | rfl | rfl | rfl | rfl | rfl | rfl | rfl | rfl | rfl | rfl | rfl | rfl | rfl | rfl
  all_goals first | exact absurd h (by decide) | exact absurd h2 (by decide)
theorem step_plus {s : ByteArray} {x : Sc} {f : Nat} (hp : x.p < s.size) (h : byteAt s x.p = 43) (he : s.extract x.p (x.p + 1) = ⟨#[43]⟩) : scanL s (f + 1) x = scanL s f (x.add s 4 (x.p + 1)) := by
 have ho : opN s x.p = 1 := by
  unfold opN
  rw [he, show isOp ⟨#[43]⟩ = true from by decide]
  by_cases h2 : x.p + 2 ≤ s.size
  ·
   rw [no_plus2 (s.extract x.p (x.p + 2)) (by rw [byteAt_sub s _ _ (by omega) (by omega)]; exact h) (by rw [ByteArray.size_extract]; omega), Bool.and_false]
   rfl
  ·
   rw [decide_eq_false h2, Bool.false_and]
   rfl
 have e : x.one s = (true, x.add s 4 (x.p + 1)) := by
  rw [Sc.one, if_neg (by omega), if_neg (by omega), if_neg (by omega), if_neg (by omega), if_neg (by omega), h, show digB 43 = false from rfl, if_neg (by decide), show letB 43 = false from rfl, if_neg (by decide), ho]
  rfl
 rw [scanL_step hp (by rw [e]), e]
end Go.Proofs.YtiknnobgoamgcaaGreatDoor
/-
  What the laws over the parser share.
-/
namespace Go.Proofs.YtiknnobgoamgcaaGreatDoor
open Go.RowKit Go.Lib Go.Sort
set_option linter.unusedSimpArgs false
set_option linter.unusedVariables false
/-- The text about an expression. -/
def preE : List UInt8 := [112, 97, 99, 107, 97, 103, 101, 32, 112, 10, 118, 97, 114, 32, 120, 32, 105, 110, 116, 32, 61, 32]
def exT (s : List UInt8) : ByteArray := bs (preE ++ s ++ [10])
/-- A file of one var with this expression. -/
def exF (x : Nd) : F := .cons 2 1 .nil (.cons 4 4 (.cons 28 5 .nil (.cons x.k x.t x.c .nil)) .nil)
/-- A box is written: all else stays. -/
theorem box_heap (W : World) (b : Nat) (k t : Int) (a : Option Addr) (n cap : Nat) : ∀ x, x ≠ b → (((W.setCell ⟨b, 0, none⟩ (.int .i64 k)).setCell ⟨b, 1, none⟩ (.int .i64 t)).setCell ⟨b, 2, none⟩ (.slice a n cap)).heap[x]? = W.heap[x]? := fun x hx => by
 rw [Below.heap_setCell _ _ _ x hx, Below.heap_setCell _ _ _ x hx, Below.heap_setCell _ _ _ x hx]
theorem toks_box {W W' : World} {v : Value} {L : List Tk} {b : Nat} {k t : Int} {a : Option Addr} {n cap : Nat} (h : Toks W v L) (hN : NBlk W b k t a n cap) (hs : W.heap.size ≤ W'.heap.size) (hh : ∀ x, x ≠ b → W'.heap[x]? = W.heap[x]?) : Toks W' v L := by
 obtain ⟨a9, c9, e9, k1, k2, k3⟩ := h
 refine ⟨a9, c9, e9, k1, k2, fun h0 => ?_⟩
 obtain ⟨g9, rfl, hg9, hc9⟩ := k3 h0
 have hne : g9 ≠ b := fun hE => by
  have := (hc9 0 _ (List.getElem?_eq_getElem h0)).2.1
  rw [hE] at this
  simp only [Nat.zero_mul, Nat.zero_add] at this
  rw [hN.box.2.1] at this
  cases this
 refine ⟨g9, rfl, Nat.lt_of_lt_of_le hg9 hs, fun i t hi => ?_⟩
 obtain ⟨j0, j1, j2, j3, j4⟩ := hc9 i t hi
 have h9 := hh g9 hne
 exact ⟨(World.cell?_of_block (a := ⟨g9, i * 5, none⟩) h9).trans j0, (World.cell?_of_block (a := ⟨g9, i * 5 + 1, none⟩) h9).trans j1, (World.cell?_of_block (a := ⟨g9, i * 5 + 2, none⟩) h9).trans j2, (World.cell?_of_block (a := ⟨g9, i * 5 + 3, none⟩) h9).trans j3, (World.cell?_of_block (a := ⟨g9, i * 5 + 4, none⟩) h9).trans j4⟩
theorem PR.bind_assoc {α β γ : Type} (r : PR α) (f : α → Nat → PR β) (g : β → Nat → PR γ) : (r.bind f).bind g = r.bind fun v i => (f v i).bind g := by
 cases r <;> rfl
theorem wantA_bind {α β : Type} (b : Bool) (i : Nat) (r : PR α) (f : α → Nat → PR β) : (wantA b i r).bind f = wantA b i (r.bind f) := by
 cases b <;> rfl
theorem filG_bind (L : List Tk) (f i : Nat) : filG L f i = (filU L f i).bind fun l o => .ok ⟨1, 0, l⟩ o := by
 unfold filG filU
 rw [wantA_bind, PR.bind_assoc]
 congr 2
 funext n j
 rw [PR.bind_assoc]
 congr 1
 funext _ k
 rw [PR.bind_assoc]
 congr 1
 funext l m
 rw [PR.bind_assoc]
 congr 1
 funext l' o
 rw [wantA_bind]
 rfl
/-- Its kids are the file's. -/
theorem filA_ok {L : List Tk} {f o : Nat} {l : F} (h : filU L f 0 = .ok l o) : filA L f = .ok ⟨1, 0, l⟩ o := by
 rw [← filG_zero, filG_bind, h]
 simp only [PR.bind]
theorem filA_bad {L : List Tk} {f j : Nat} (h : filU L f 0 = .bad j) : filA L f = .bad j := by
 rw [← filG_zero, filG_bind, h]
 rfl
/-- A node in a box of its own, what is beneath it, and the words. -/
def BoxT (w0 w : World) (b : Nat) (k t : Int) (a : Option Addr) (m c : Nat) (f : F) (v : Value) (L : List Tk) : Prop := NBlk w b k t a m c ∧ SlQ (fun y => w0.heap.size ≤ y) w a m c f ∧ Toks w v L ∧ Below w0.heap.size w0 w
theorem BoxT.below {w0 w w' : World} {b : Nat} {k t : Int} {a : Option Addr} {m c : Nat} {f : F} {v : Value} {L : List Tk} (h : BoxT w0 w b k t a m c f v L) (hb : Below w.heap.size w w') : BoxT w0 w' b k t a m c f v L :=
 ⟨h.1.same (hb.block b h.1.lt), h.2.1.below hb, h.2.2.1.below hb, h.2.2.2.trans (hb.mono h.2.2.2.size)⟩
/-- The bytes of a text, said of its list. -/
theorem eq_bs {s : ByteArray} {l : List UInt8} (h : s.data.toList = l) : s = bs l := by
 cases s with
 | mk d =>
  subst h
  simp [bs]
theorem bs_toList (l : List UInt8) : (bs l).toList = l := by
 rw [ByteArray.toList_eq]
 simp [bs]
end Go.Proofs.YtiknnobgoamgcaaGreatDoor
/-
  The law's begun: one file, one that is none.
-/
namespace Go.Proofs.YtiknnobgoamgcaaGreatDoor
open Go.RowKit Go.Lib Go.Sort
set_option linter.unusedSimpArgs false
set_option linter.unusedVariables false
set_option maxRecDepth 100000
theorem bg_scan1 : (scanA ⟨#[112, 97, 99, 107, 97, 103, 101, 32, 112, 10, 118, 97, 114, 32, 120, 32, 105, 110, 116, 32, 61, 32, 49, 32, 43, 32, 50, 32, 42, 32, 121, 10]⟩).2.2 = -1 := by kernel_rfl
theorem bg_len1 : (scanA ⟨#[112, 97, 99, 107, 97, 103, 101, 32, 112, 10, 118, 97, 114, 32, 120, 32, 105, 110, 116, 32, 61, 32, 49, 32, 43, 32, 50, 32, 42, 32, 121, 10]⟩).1.length = 14 := by kernel_rfl
theorem bg_fil1 : filA (scanA ⟨#[112, 97, 99, 107, 97, 103, 101, 32, 112, 10, 118, 97, 114, 32, 120, 32, 105, 110, 116, 32, 61, 32, 49, 32, 43, 32, 50, 32, 42, 32, 121, 10]⟩).1 60 = .ok ⟨1, 0, (.cons 2 1 .nil (.cons 4 4 (.cons 28 5 .nil (.cons 24 8 (.cons 21 7 .nil (.cons 24 10 (.cons 21 9 .nil (.cons 20 11 .nil .nil)) .nil)) .nil)) .nil))⟩ 14 := by kernel_rfl
theorem bg_kid1 : filU (scanA ⟨#[112, 97, 99, 107, 97, 103, 101, 32, 112, 10, 118, 97, 114, 32, 120, 32, 105, 110, 116, 32, 61, 32, 49, 32, 43, 32, 50, 32, 42, 32, 121, 10]⟩).1 60 0 = .ok (.cons 2 1 .nil (.cons 4 4 (.cons 28 5 .nil (.cons 24 8 (.cons 21 7 .nil (.cons 24 10 (.cons 21 9 .nil (.cons 20 11 .nil .nil)) .nil)) .nil)) .nil)) 14 := by kernel_rfl
theorem bg_scan2 : (scanA ⟨#[112, 97, 99, 107, 97, 103, 101, 32, 112, 10, 118, 97, 114, 32, 120, 32, 61, 32, 49, 10]⟩).2.2 = -1 := by kernel_rfl
theorem bg_len2 : (scanA ⟨#[112, 97, 99, 107, 97, 103, 101, 32, 112, 10, 118, 97, 114, 32, 120, 32, 61, 32, 49, 10]⟩).1.length = 9 := by kernel_rfl
theorem bg_fil2 : filA (scanA ⟨#[112, 97, 99, 107, 97, 103, 101, 32, 112, 10, 118, 97, 114, 32, 120, 32, 61, 32, 49, 10]⟩).1 60 = .bad 5 := by kernel_rfl
theorem bg_kid2 : filU (scanA ⟨#[112, 97, 99, 107, 97, 103, 101, 32, 112, 10, 118, 97, 114, 32, 120, 32, 61, 32, 49, 10]⟩).1 60 0 = .bad 5 := by kernel_rfl
theorem bg_at2 : (tkA (scanA ⟨#[112, 97, 99, 107, 97, 103, 101, 32, 112, 10, 118, 97, 114, 32, 120, 32, 61, 32, 49, 10]⟩).1 5).p = 16 := by kernel_rfl
theorem bg_one (w : World) : Calls Tryz.prog 16 #[.string ⟨#[112, 97, 99, 107, 97, 103, 101, 32, 112, 10, 118, 97, 114, 32, 120, 32, 105, 110, 116, 32, 61, 32, 49, 32, 43, 32, 50, 32, 42, 32, 121, 10]⟩] w fun e w' => ∃ (a : Option Addr) (m c : Nat) (v : Value), e = .returned (.tuple #[.agg #[.int .i64 1, .int .i64 0, .slice a m c], v, .int .i64 (-1)]) ∧ SlQ (fun x => w.heap.size ≤ x) w' a m c (.cons 2 1 .nil (.cons 4 4 (.cons 28 5 .nil (.cons 24 8 (.cons 21 7 .nil (.cons 24 10 (.cons 21 9 .nil (.cons 20 11 .nil .nil)) .nil)) .nil)) .nil)) ∧ (∃ a' c', v = .slice a' 14 c') ∧ Below w.heap.size w w' := by
 refine (paText_ok ⟨#[112, 97, 99, 107, 97, 103, 101, 32, 112, 10, 118, 97, 114, 32, 120, 32, 105, 110, 116, 32, 61, 32, 49, 32, 43, 32, 50, 32, 42, 32, 121, 10]⟩ w (by decide) (by rw [bg_scan1]; decide) (by rw [bg_len1]; decide) (by rw [bg_len1]; decide) (f := 60) (by decide) _ _ bg_fil1).mono ?_
 rintro e w' ⟨a, m, c, v, rfl, hs, hT, hb⟩
 obtain ⟨a', c', rfl, _⟩ := hT
 rw [bg_len1]
 exact ⟨a, m, c, _, rfl, hs, ⟨a', c', rfl⟩, hb⟩
theorem bg_two (w : World) : Calls Tryz.prog 16 #[.string ⟨#[112, 97, 99, 107, 97, 103, 101, 32, 112, 10, 118, 97, 114, 32, 120, 32, 61, 32, 49, 10]⟩] w fun e w' => e = .returned (.tuple #[.agg #[.int .i64 0, .int .i64 0, .slice none 0 0], .slice none 0 0, .int .i64 16]) ∧ Below w.heap.size w w' := by
 have h := paText_bad ⟨#[112, 97, 99, 107, 97, 103, 101, 32, 112, 10, 118, 97, 114, 32, 120, 32, 61, 32, 49, 10]⟩ w (by decide) (by rw [bg_scan2]; decide) (by rw [bg_len2]; decide) (by rw [bg_len2]; decide) (f := 60) (by decide) 5 (by rw [bg_len2]; decide) bg_fil2
 rw [bg_at2] at h
 exact h
set_option maxHeartbeats 4000000 in
theorem plBegun_any (w : World) : Calls Tryz.prog 27 #[] w fun e w' => e = .returned (.bool true) ∧ Below w.heap.size w w' := by
 have H1 := zH (bg_one w)
 have H2 := zH bg_two
 go_enter Tryz.func27, Tryz.ntmps27
 go_wp2_with fail
 refine (uH H1).mono ?_
 rintro e W1 ⟨a, m, c, v, rfl, hs, ⟨a', c', rfl⟩, hb⟩
 have hb1 := hb.trans ((below_alloc W1 (.cells #[.int .i64 1, .int .i64 0, .slice a m c] 24 (0, 0))).mono hb.size)
 have hN := nblk_new W1 1 0 a m c
 have hs1 := hs.below (below_alloc W1 (.cells #[.int .i64 1, .int .i64 0, .slice a m c] 24 (0, 0)))
 clear hs hb H1
 replace hN := zH hN
 replace hs1 := zH hs1
 replace hb1 := zH hb1
 go_wp2_with fail
 refine (uH H2 _).mono ?_
 rintro e W2 ⟨rfl, hb2⟩
 have hb3 := below_alloc W2 (.cells #[.int .i64 0, .int .i64 0, .slice none 0 0] 24 (0, 0))
 have hb4 := hb2.trans (hb3.mono hb2.size)
 have hN3 := (uH hN).same (hb4.block _ (by simp))
 have hfin := zH (below3 (uH hb1) hb4)
 have hs3 := (uH hs1).below hb4
 obtain ⟨p0, p1, p2⟩ := hN3.box
 obtain ⟨e1, e2, e3, h3⟩ := hs3
 obtain rfl : m = 2 := e1
 obtain ⟨g1, o1, rfl, ht1, x0, x1, ⟨a2, n2, c2, x2, f1, f2, f3, h4⟩, y0, y1, ⟨a3, n3, c3, y2, f4, f5, f6, h5⟩, _⟩ := h3 (by decide)
 obtain rfl : n3 = 2 := f4
 obtain ⟨g2, o2, rfl, ht2, u0, u1, ⟨a4, n4, c4, u2, _⟩, v0, v1, ⟨a5, n5, c5, v2, _⟩, _⟩ := h5 (by decide)
 have hcap1 := e2.1
 have hcap2 := f5.1
 clear hN hs1 hb1 hb2 hb3 hb4 hN3 H2 h3 h4 h5 ht1 ht2
 go_wp2
 go_ret
 exact ⟨rfl, uH hfin⟩
end Go.Proofs.YtiknnobgoamgcaaGreatDoor
/-
  What nodes of a kind are called: the program's table, the reference's list.
-/
namespace Go.Proofs.YtiknnobgoamgcaaGreatDoor
open Go.RowKit Go.Lib Go.Sort
set_option linter.unusedSimpArgs false
set_option linter.unusedVariables false
def nmR : List ByteArray := [⟨#[102, 105, 108, 101]⟩, ⟨#[112, 97, 99, 107, 97, 103, 101]⟩, ⟨#[105, 109, 112, 111, 114, 116]⟩, ⟨#[118, 97, 114]⟩, ⟨#[99, 111, 110, 115, 116]⟩, ⟨#[115, 116, 114, 117, 99, 116]⟩, ⟨#[102, 105, 101, 108, 100]⟩, ⟨#[102, 117, 110, 99]⟩, ⟨#[112, 97, 114, 97, 109]⟩, ⟨#[98, 108, 111, 99, 107]⟩, ⟨#[100, 101, 102, 105, 110, 101]⟩, ⟨#[100, 111]⟩, ⟨#[97, 115, 115, 105, 103, 110]⟩, ⟨#[105, 102]⟩, ⟨#[102, 111, 114]⟩, ⟨#[114, 101, 116, 117, 114, 110]⟩, ⟨#[98, 114, 101, 97, 107]⟩, ⟨#[99, 111, 110, 116, 105, 110, 117, 101]⟩, ⟨#[108, 97, 98, 101, 108]⟩, ⟨#[110, 97, 109, 101]⟩, ⟨#[105, 110, 116]⟩, ⟨#[115, 116, 114, 105, 110, 103]⟩, ⟨#[117, 110, 97, 114, 121]⟩, ⟨#[98, 105, 110, 97, 114, 121]⟩, ⟨#[112, 97, 114, 101, 110]⟩, ⟨#[99, 97, 108, 108]⟩, ⟨#[115, 101, 108, 101, 99, 116]⟩, ⟨#[116, 121, 112, 101]⟩]
def nmL : List ByteArray := ⟨#[]⟩ :: nmR
def nameK (z : Int) : ByteArray := if z < 0 ∨ 29 ≤ z then ⟨#[]⟩ else nmL.getD z.toNat ⟨#[]⟩
/-- The program's table lies as it was laid. -/
def Tab (w : World) : Prop := ∀ i, i < 29 → w.cell? ⟨0, i, none⟩ = some (.string (nmL.getD i ⟨#[]⟩))
theorem Tab.lt {w : World} (h : Tab w) : 0 < w.heap.size := World.block_lt_of_cell? w _ (h 0 (by omega))
theorem Tab.below {w w' : World} (h : Tab w) {B : Nat} (hb : Below B w w') (hB : 0 < B) : Tab w' := fun i hi => by
 rw [hb.cell (by exact hB)]
 exact h i hi
theorem Tab.of {w w' : World} (h : Tab w) (hb : Below w.heap.size w w') : Tab w' := h.below hb h.lt
theorem ret_str {a b : ByteArray} (h : a = b) : Ending.returned (.string a) = .returned (.string b) := by rw [h]
set_option maxHeartbeats 2000000 in
set_option maxRecDepth 100000 in
theorem ndName_any (z : Int) (w : World) (hT : Tab w) : Calls Tryz.prog 29 #[.int .i64 z] w fun e w' => e = .returned (.string (nameK z)) ∧ w' = w := by
 by_cases h0 : z < 0
 ·
  have hk : Hid (nameK z = ⟨#[]⟩) := zH (by rw [nameK, if_pos (.inl h0)])
  have hd : decide (z < 0) = true := decide_eq_true h0
  go_enter Tryz.func29, Tryz.ntmps29
  go_wp2
  go_ret
  exact ⟨ret_str (uH hk).symm, rfl⟩
 ·
  have hd : decide (z < 0) = false := decide_eq_false h0
  by_cases h1 : 29 ≤ z
  ·
   have hk : Hid (nameK z = ⟨#[]⟩) := zH (by rw [nameK, if_pos (.inr h1)])
   have hd1 : decide (29 ≤ z) = true := decide_eq_true h1
   go_enter Tryz.func29, Tryz.ntmps29
   go_wp2
   go_ret
   exact ⟨ret_str (uH hk).symm, rfl⟩
  ·
   have hd1 : decide (29 ≤ z) = false := decide_eq_false h1
   obtain ⟨j, rfl⟩ : ∃ j : Nat, z = (j : Int) := ⟨z.toNat, by omega⟩
   have hk : Hid (nameK (j : Int) = nmL.getD j ⟨#[]⟩) := zH (by rw [nameK, if_neg (by omega)]; rfl)
   have hc := hT j (by omega)
   have hj : (j : Int) < 29 := by omega
   have hj2 : j < 29 := by omega
   generalize nmL.getD j ⟨#[]⟩ = s at *
   clear hT
   go_enter Tryz.func29, Tryz.ntmps29
   go_wp2
   go_ret
   exact ⟨ret_str (uH hk).symm, rfl⟩
theorem lit_cell (W : World) (j : Nat) (hj : j < 28) : (W.alloc (.cells (nmR.map Value.string).toArray 9 (0, 0))).cell? ⟨W.heap.size, j, none⟩ = some (.string (nmR.getD j ⟨#[]⟩)) := by
 have hl : nmR.length = 28 := rfl
 rw [World.cell?_alloc_mark]
 simp [List.getD, show j < nmR.length by omega]
set_option maxHeartbeats 4000000 in
set_option maxRecDepth 100000 in
theorem rNameN_any (z : Int) (w : World) (hz : -9223372036854775808 ≤ z ∧ z ≤ 9223372036854775807) : Calls Tryz.prog 21 #[.int .i64 z] w fun e w' => e = .returned (.string (nameK z)) ∧ Below w.heap.size w w' := by
 have hb := below_alloc w (.cells (nmR.map Value.string).toArray 9 (0, 0))
 have hcell := lit_cell w
 simp only [nmR, List.map_cons, List.map_nil] at hb hcell
 by_cases h0 : z < 1
 ·
  have hk : Hid (nameK z = ⟨#[]⟩) := zH (by
   by_cases h : z < 0
   ·
    rw [nameK, if_pos (.inl h)]
   ·
    obtain rfl : z = 0 := by omega
    rfl)
  have hd : decide (z < 1) = true := decide_eq_true h0
  replace hb := zH hb
  clear hcell
  go_enter Tryz.func21, Tryz.ntmps21
  go_wp2
  go_ret
  exact ⟨ret_str (uH hk).symm, uH hb⟩
 ·
  have hd : decide (z < 1) = false := decide_eq_false h0
  by_cases h1 : 28 < z
  ·
   have hk : Hid (nameK z = ⟨#[]⟩) := zH (by rw [nameK, if_pos (.inr (by omega))])
   have hd1 : decide (28 < z) = true := decide_eq_true h1
   replace hb := zH hb
   clear hcell
   go_enter Tryz.func21, Tryz.ntmps21
   go_wp2
   go_ret
   exact ⟨ret_str (uH hk).symm, uH hb⟩
  ·
   have hd1 : decide (28 < z) = false := decide_eq_false h1
   obtain ⟨j, rfl⟩ : ∃ j : Nat, z = (j : Int) + 1 := ⟨(z - 1).toNat, by omega⟩
   have hk : Hid (nameK ((j : Int) + 1) = nmR.getD j ⟨#[]⟩) := zH (by
    rw [nameK, if_neg (by omega), show ((j : Int) + 1).toNat = j + 1 by omega]
    rfl)
   have hc := hcell j (by omega)
   have hm1 : (j : Int) + 1 - 1 = j := by omega
   have hj : (j : Int) < 28 := by omega
   have hj2 : j < 28 := by omega
   have hw : IntKind.i64.wrap ((j : Int) + 1 - 1) = j := by rw [wrapI _ (by omega) (by omega)]; omega
   replace hb := zH hb
   obtain ⟨s, hs⟩ : ∃ s, nmR.getD j ⟨#[]⟩ = s := ⟨_, rfl⟩
   rw [show ([⟨#[102, 105, 108, 101]⟩, ⟨#[112, 97, 99, 107, 97, 103, 101]⟩, ⟨#[105, 109, 112, 111, 114, 116]⟩, ⟨#[118, 97, 114]⟩, ⟨#[99, 111, 110, 115, 116]⟩, ⟨#[115, 116, 114, 117, 99, 116]⟩, ⟨#[102, 105, 101, 108, 100]⟩, ⟨#[102, 117, 110, 99]⟩, ⟨#[112, 97, 114, 97, 109]⟩, ⟨#[98, 108, 111, 99, 107]⟩, ⟨#[100, 101, 102, 105, 110, 101]⟩, ⟨#[100, 111]⟩, ⟨#[97, 115, 115, 105, 103, 110]⟩, ⟨#[105, 102]⟩, ⟨#[102, 111, 114]⟩, ⟨#[114, 101, 116, 117, 114, 110]⟩, ⟨#[98, 114, 101, 97, 107]⟩, ⟨#[99, 111, 110, 116, 105, 110, 117, 101]⟩, ⟨#[108, 97, 98, 101, 108]⟩, ⟨#[110, 97, 109, 101]⟩, ⟨#[105, 110, 116]⟩, ⟨#[115, 116, 114, 105, 110, 103]⟩, ⟨#[117, 110, 97, 114, 121]⟩, ⟨#[98, 105, 110, 97, 114, 121]⟩, ⟨#[112, 97, 114, 101, 110]⟩, ⟨#[99, 97, 108, 108]⟩, ⟨#[115, 101, 108, 101, 99, 116]⟩, ⟨#[116, 121, 112, 101]⟩] : List ByteArray).getD j ⟨#[]⟩ = s from hs] at hc
   rw [hs] at hk
   replace hs := zH hs
   clear hcell
   go_enter Tryz.func21, Tryz.ntmps21
   go_wp2
   go_ret
   exact ⟨ret_str (uH hk).symm, uH hb⟩
end Go.Proofs.YtiknnobgoamgcaaGreatDoor
/-
  What the tied rows' condition gives: the table of package node lies as its initialiser wrote it; strings, cell for cell. (The witness starts in the heap that the initialisers' own run leaves.)
-/
namespace Go.Proofs.YtiknnobgoamgcaaGreatDoor
open Go.RowKit
/-- An array of strings that reads as the table holds the table's texts, cell for cell. -/
theorem cells_of_texts {H : Type} {enc : TypeId × Value → H} {P : Program} {w : World} {base : Nat} {sp : Nat → Bool} {held : Bool} {fuel : Nat} {t e : TypeId} {n : Nat} {cs : List Value} {zs : List ByteArray} {p : List MemPlace}
  (ht : P.underlying t = some (.array n e)) (he : P.underlying e = some .string) (hce : P.cellsOf e = 1) (hct : P.cellsOf t = n)
  (h : DataW.trod enc P w base sp held fuel t cs = some (.agg (zs.map fun z => .lit (.string z.data.toList)), p)) : cs = zs.map Value.string := by
 cases fuel with
 | zero => simp [DataW.trod] at h
 | succ fuel =>
  simp only [DataW.trod, ht, hce, hct, Nat.mul_one] at h
  split at h
  ·
   rename_i hl
   obtain ⟨xs, hm, hx⟩ := Option.map_eq_some_iff.1 h
   have hxs : xs.map (·.1) = zs.map fun z => (DataW.lit (.string z.data.toList) : DataW H) := by
    have := congrArg Prod.fst hx
    simpa using this
   have hxl : xs.length = n := by simpa using Lib.mapM_length hm
   have hzl : zs.length = n := by
    have := congrArg List.length hxs
    simp at this
    omega
   apply List.ext_getElem?
   intro i
   by_cases hi : i < n
   ·
    obtain ⟨b, hb, hf⟩ := Lib.mapM_at hm i i (by simp [hi])
    obtain ⟨z, hc, rfl, _⟩ := DataW.trod_string he hf
    have h1 : cs[i]? = some (.string z) := by
     have := congrArg (·[0]?) hc
     simpa [List.getElem?_take, List.getElem?_drop] using this
    have h2 : (xs.map (·.1))[i]? = some (DataW.lit (.string z.data.toList) : DataW H) := by simp [hb]
    rw [hxs] at h2
    simp only [List.getElem?_map, Option.map_eq_some_iff, DataW.lit.injEq, Lit.string.injEq] at h2
    obtain ⟨z', hz', h3⟩ := h2
    have h4 : z' = z := by
     cases z with | mk d => cases z' with | mk d' => exact congrArg ByteArray.mk (Array.toList_inj.1 h3)
    subst h4
    simp [h1, hz']
   ·
    rw [List.getElem?_eq_none (by omega), List.getElem?_eq_none (by simp; omega)]
  ·
   cases h
/-- From the row's condition to the variable's cells: the table stands first on the list. -/
theorem texts_of_head {P : Program} {W : World} {name : String} {zs : List ByteArray} {rest : List (String × DataW Unit)} {g : Nat} {t e : TypeId} {n : Nat}
  (hg : P.globalNamed name = some g) (hty : (P.globals[g]?).map (·.type) = some t) (ht : P.underlying t = some (.array n e)) (he : P.underlying e = some .string) (hce : P.cellsOf e = 1) (hct : P.cellsOf t = n)
  (h : laidMet P ((name, .agg (zs.map fun z => .lit (.string z.data.toList))) :: rest) W) : W.var? P name = some (zs.map Value.string).toArray := by
 obtain ⟨ps, ⟨g', t', cs, fuel, p, q, hg', ht', hvar, hd, _, _⟩, _⟩ := h
 obtain rfl := Option.some.inj (hg.symm.trans hg')
 obtain rfl := Option.some.inj (hty.symm.trans ht')
 rw [hvar, ← cells_of_texts ht he hce hct hd]
def laidL : List (String × DataW Unit) := [("recension/node.names", Rows.laid_recension_node_names)]
theorem laid_door (os : Os) (args : Array Value) : laidMetH Tryz.prog laidL ((World.doorLaid Tryz.prog 14 os).forCall (fun _ _ => 0) ⟨#[], args, []⟩).memory :=
 laidMetH_of_parts3 (fuel := 8) (laidMet_of_run' 8 (by kernel_rfl) (by kernel_rfl)) (by kernel_rfl) (by kernel_rfl)
theorem names_named : Tryz.prog.globalNamed "recension/node.names" = some 0 := by kernel_rfl
theorem names_type : (Tryz.prog.globals[0]?).map (·.type) = some 74 := by kernel_rfl
theorem names_cells : Tryz.prog.cellsOf 74 = 29 := by kernel_rfl
theorem string_cells : Tryz.prog.cellsOf 9 = 1 := by kernel_rfl
theorem tabs_of_laid {W : World} (h : laidMetH Tryz.prog laidL W) : Tab W := by
 rw [MakeChecks.laidMetH_plain _ _ _ (by kernel_rfl)] at h
 have h1 : laidMet Tryz.prog (("recension/node.names", .agg (nmL.map fun z => .lit (.string z.data.toList))) :: []) W := h
 have h2 := texts_of_head names_named names_type Tryz.underlying74 Tryz.underlying9 string_cells names_cells h1
 intro i hi
 have h3 := World.var?_cell names_named h2 i
 have hl : nmL.length = 29 := rfl
 have hi2 : i < nmL.length := by omega
 simpa [List.getD, hi2] using h3
end Go.Proofs.YtiknnobgoamgcaaGreatDoor
/-
  strings.Builder's WriteString at this program (its copy check ends at what the model does not tell; no run here comes to it).
-/
namespace Go.Proofs.YtiknnobgoamgcaaGreatDoor
open Go.RowKit
set_option linter.unusedSimpArgs false
set_option linter.unusedVariables false
theorem Tryz.infoByte : (Tryz.prog.info? 5).map (fun i => (i.zero, i.size, i.bytes)) = some (some (.int .u8 0), 1, 1) := by kernel_rfl
theorem Tryz.sizeBld : (Tryz.prog.info? 41).map (fun i => i.size) = some 2 := by kernel_rfl
abbrev Bld (w : World) (B b : Nat) (bs : List Value) : Prop := Lib.IsBuilderF 41 5 B b bs w
set_option maxHeartbeats 1000000 in
set_option maxRecDepth 100000 in
theorem bCheck_used (b : Nat) (w : World) (h0 : w.cell? ⟨b, 0, none⟩ = some (.pointer (some ⟨b, 0, none⟩))) :
  Calls Tryz.prog 31 #[.pointer (some ⟨b, 0, none⟩)] w fun e w' => e = .returned (.tuple #[]) ∧ w' = w := by
 obtain ⟨j, hj, _⟩ := Option.map_eq_some_iff.1 Tryz.sizeBld
 go_enter Tryz.func31, Tryz.ntmps31
 go_wp2
 rw [Lib.run_neq_ptr_same w _ Tryz.underlying38 hj]
 go_wp2
 go_end0
 exact ⟨rfl, rfl⟩
set_option maxHeartbeats 1000000 in
set_option maxRecDepth 100000 in
theorem bCheck_fresh (b : Nat) (w : World) (h0 : w.cell? ⟨b, 0, none⟩ = some (.pointer none)) (hsh : w.shape? b = some (41, 2)) (hfz : w.frozen? ⟨b, 0, none⟩ = false) :
  Calls Tryz.prog 31 #[.pointer (some ⟨b, 0, none⟩)] w fun e w' => e = .returned (.tuple #[]) ∧ w' = w.setCell ⟨b, 0, none⟩ (.pointer (some ⟨b, 0, none⟩)) := by
 obtain ⟨j, hj, hjs⟩ := Option.map_eq_some_iff.1 Tryz.sizeBld
 go_enter Tryz.func31, Tryz.ntmps31
 go_wp2
 rw [Lib.run_to_unsafe w ⟨b, 0, none⟩ Tryz.underlying38 Tryz.underlying75 hj (by rw [hjs]; decide) hsh (Nat.zero_lt_succ 1)]
 simp only [Result.andThen]
 rw [Oper.upon_value]
 go_wp2
 rw [run_callFunc_extern Tryz.func41 (by kernel_rfl) (by kernel_rfl) (by kernel_rfl) (e := Extern.AbiNoEscape.same) (by kernel_rfl), Lib.run_noEscape]
 simp only [Result.andThen]
 rw [Oper.upon_value]
 go_wp2
 rw [Lib.run_from_unsafe w ⟨b, 0, none⟩ Tryz.underlying75 Tryz.underlying38 hj hsh (by kernel_rfl)]
 simp only [Result.andThen]
 rw [Oper.upon_value]
 go_wp2
 go_end0
 exact ⟨rfl, rfl⟩
theorem bCheck_any (B b : Nat) (bs : List Value) (w : World) (h : Bld w B b bs) :
  Calls Tryz.prog 31 #[.pointer (some ⟨b, 0, none⟩)] w fun e w' => e = .returned (.tuple #[]) ∧ Lib.BuilderAtF 41 5 B b (.pointer (some ⟨b, 0, none⟩)) bs w' ∧ Below B w w' ∧ Lib.OthersKept 5 (some b) w w' := by
 rcases h with h | h
 ·
  refine (bCheck_fresh b w h.cell0 h.shape h.frozen0).mono ?_
  rintro e w' ⟨rfl, rfl⟩
  exact ⟨rfl, h.used _, (Below.refl B w).setCell (p := ⟨b, 0, none⟩) h.1 _, (Lib.OthersKept.refl _ _ w).setCell ⟨b, 0, none⟩ rfl _⟩
 ·
  refine (bCheck_used b w h.cell0).mono ?_
  rintro e w' ⟨rfl, rfl⟩
  exact ⟨rfl, h, Below.refl B _, Lib.OthersKept.refl _ _ _⟩
set_option maxHeartbeats 2000000 in
set_option maxRecDepth 100000 in
/-- What is written stands behind what was there. -/
theorem bWrite_any (B b : Nat) (bs : List Value) (s : ByteArray) (w : World) (h : Bld w B b bs) (hlen : bs.length + s.size ≤ 1000000000000) (hBw : B ≤ w.heap.size) :
  Calls Tryz.prog 28 #[.pointer (some ⟨b, 0, none⟩), .string s] w fun e w' => e = .returned (.tuple #[.int .i64 s.size, .nilIface]) ∧ Bld w' B b (bs ++ Lib.strCells s) ∧ Below B w w' ∧ Lib.OthersKept 5 (some b) w w' := by
 obtain ⟨i0, hi, hz0, hz1, hz2⟩ := info_parts Tryz.infoByte
 go_enter Tryz.func28, Tryz.ntmps28
 go_wp2_with fail
 refine (bCheck_any B b bs _ h).mono ?_
 rintro e w1 ⟨rfl, ⟨hB, v, hbk, hown, hne⟩, hb1, hk1⟩
 have hlt : b < w1.heap.size := (Array.getElem?_eq_some_iff.1 hbk).1
 have hBw1 : B ≤ w1.heap.size := by omega
 have c0 : w1.cell? ⟨b, 0, none⟩ = some (.pointer (some ⟨b, 0, none⟩)) := by rw [Lib.cell_of_heap hbk]; rfl
 have c1 : w1.cell? ⟨b, 1, none⟩ = some v := by rw [Lib.cell_of_heap hbk]; rfl
 go_wp2_with (at_builtin; refine Lib.wpList_append_own_stringF _ rfl _ _ 39 9 rfl B 5 i0 Tryz.underlying39 Tryz.underlying9 hi hz0 hz1 hz2 _ _ _ rfl hown s rfl (by unfold maxLen; omega) (by omega) hBw1 ?_)
 intro v' w2 hown' hgrow _
 have hb2 : w2.heap[b]? = some (.cells #[.pointer (some ⟨b, 0, none⟩), v] 41 (0, 0)) := by
  rw [hgrow.block b hlt (fun e => hne e.symm)]
  exact hbk
 have d0 : w2.cell? ⟨b, 0, none⟩ = some (.pointer (some ⟨b, 0, none⟩)) := by rw [Lib.cell_of_heap hb2]; rfl
 have d1 : w2.cell? ⟨b, 1, none⟩ = some v := by rw [Lib.cell_of_heap hb2]; rfl
 have f1 : w2.frozen? ⟨b, 1, none⟩ = false := Lib.frozen_of_heap hb2 1
 obtain ⟨ao, n', cap, rfl⟩ : ∃ ao n' cap, v' = .slice ao n' cap := by
  rcases hown'.2 with ⟨hv, _⟩ | ⟨g, cap, cur, fz, hv, _⟩
  ·
   exact ⟨_, _, _, hv⟩
  ·
   exact ⟨_, _, _, hv⟩
 go_wp2
 go_ret2
 refine ⟨rfl, .inr ?_, ?_, (hk1.grown hgrow (Lib.ownsRowF_kind hown)).setCell ⟨b, 1, none⟩ rfl _⟩
 ·
  exact Lib.BuilderAtF.put hB hb2 (bs' := bs ++ Lib.strCells s) (by simpa [Lib.strCells_length] using hown') (by decide)
 ·
  exact (hb1.grown hgrow hBw1 (fun k hk => (hown.lt k hk).1)).setCell (p := ⟨b, 1, none⟩) hB _
end Go.Proofs.YtiknnobgoamgcaaGreatDoor
/-
  strings.Builder's WriteByte at this program.
-/
namespace Go.Proofs.YtiknnobgoamgcaaGreatDoor
open Go.RowKit
set_option linter.unusedSimpArgs false
set_option linter.unusedVariables false
set_option maxHeartbeats 2000000 in
set_option maxRecDepth 100000 in
theorem bByte_any (B b : Nat) (bs : List Value) (c : Int) (w : World) (h : Bld w B b bs) (hlen : bs.length + 1 ≤ 1000000000000) (hBw : B ≤ w.heap.size) :
  Calls Tryz.prog 19 #[.pointer (some ⟨b, 0, none⟩), .int .u8 c] w fun e w' => e = .returned .nilIface ∧ Bld w' B b (bs ++ [.int .u8 c]) ∧ Below B w w' ∧ Lib.OthersKept 5 (some b) w w' := by
 obtain ⟨i0, hi, hz0, hz1, hz2⟩ := info_parts Tryz.infoByte
 go_enter Tryz.func19, Tryz.ntmps19
 go_wp2_with fail
 refine (bCheck_any B b bs _ h).mono ?_
 rintro e w1 ⟨rfl, ⟨hB, v, hbk, hown, hne⟩, hb1, hk1⟩
 have hlt : b < w1.heap.size := (Array.getElem?_eq_some_iff.1 hbk).1
 have c0 : w1.cell? ⟨b, 0, none⟩ = some (.pointer (some ⟨b, 0, none⟩)) := by rw [Lib.cell_of_heap hbk]; rfl
 have c1 : w1.cell? ⟨b, 1, none⟩ = some v := by rw [Lib.cell_of_heap hbk]; rfl
 go_wp2_with (at_builtin; refine wpList_append_ownF _ rfl _ _ 39 rfl B 5 i0 (.int .u8 0) 1 1 Tryz.underlying39 hi hz0 hz1 hz2 rfl (by decide) _ _ _ rfl (hown.alloc _) ⟨w1.heap.size, 0, none⟩ 1 1 [.int .u8 c] rfl rfl ?c1 ?c2 ?c3 ?c4 ?c5 ?_)
 case c1 =>
  intro j u hj
  match j, hj with
  | 0, hj => simp at hj; subst hj; simp [Addr.add]
 case c2 => intro u hu; simp at hu; subst hu; rfl
 case c3 => unfold maxLen; omega
 case c4 => omega
 case c5 => simp; omega
 intro v' w2 hown' hgrow _
 have hb2 : w2.heap[b]? = some (.cells #[.pointer (some ⟨b, 0, none⟩), v] 41 (0, 0)) := by
  rw [hgrow.block b (by simp; omega) (fun e => hne e.symm), Lib.alloc_old w1 _ b hlt]
  exact hbk
 have d0 : w2.cell? ⟨b, 0, none⟩ = some (.pointer (some ⟨b, 0, none⟩)) := by rw [Lib.cell_of_heap hb2]; rfl
 have d1 : w2.cell? ⟨b, 1, none⟩ = some v := by rw [Lib.cell_of_heap hb2]; rfl
 have f1 : w2.frozen? ⟨b, 1, none⟩ = false := Lib.frozen_of_heap hb2 1
 obtain ⟨g, cap, rfl⟩ : ∃ g cap, v' = .slice (some ⟨g, 0, none⟩) (bs.length + 1) cap := by
  rcases hown'.2 with ⟨_, h0⟩ | ⟨g, cap, cur, fz, hv, _⟩
  ·
   omega
  ·
   exact ⟨g, cap, hv⟩
 go_wp2
 go_ret
 refine ⟨rfl, .inr ?_, ?_, ((hk1.alloc _).grown hgrow (Lib.ownsRowF_kind (hown.alloc _))).setCell ⟨b, 1, none⟩ rfl _⟩
 ·
  exact Lib.BuilderAtF.put hB hb2 (bs' := bs ++ [.int .u8 c]) (by simpa using hown') (by decide)
 ·
  exact ((hb1.alloc (by omega) _).grown hgrow (by simp; omega) (fun k hk => (hown.lt k hk).1)).setCell (p := ⟨b, 1, none⟩) hB _
end Go.Proofs.YtiknnobgoamgcaaGreatDoor
/-
  A pile of lists of nodes; what a function that is handed over does to the world.
-/
namespace Go.Proofs.YtiknnobgoamgcaaGreatDoor
open Go.RowKit Go.Lib Go.Sort
set_option linter.unusedSimpArgs false
set_option linter.unusedVariables false
theorem Tryz.info22 : (Tryz.prog.info? 22).map (fun i => (i.zero, i.size, i.bytes)) = some (some (.slice none 0 0), 1, 24) := by kernel_rfl
/-- Block g is a row of slices of nodes that begins with these; it has room for cap. -/
def PilP (w : World) (g cap : Nat) (us : List Value) : Prop :=
 ∃ cur : Array Value, w.heap[g]? = some (.cells cur 22 (0, 0)) ∧ cur.size = cap ∧ us.length ≤ cap ∧ cap ≤ maxLen ∧ cur.toList.take us.length = us
theorem PilP.lt {w : World} {g cap : Nat} {us : List Value} (h : PilP w g cap us) : g < w.heap.size := by
 obtain ⟨cur, hg, _⟩ := h
 exact (Array.getElem?_eq_some_iff.1 hg).1
theorem PilP.room {w : World} {g cap : Nat} {us : List Value} (h : PilP w g cap us) : us.length ≤ cap ∧ cap ≤ maxLen := by
 obtain ⟨cur, hg, h1, h2, h3, _⟩ := h
 exact ⟨h2, h3⟩
theorem PilP.own {w : World} {g cap base : Nat} {us : List Value} (h : PilP w g cap us) (hb : base ≤ g) : w.ownsRow base 22 1 (.slice (some ⟨g, 0, none⟩) us.length cap) us.length us := by
 obtain ⟨cur, hg, h1, h2, h3, h4⟩ := h
 exact ⟨by simp, .inr ⟨g, cap, cur, rfl, hb, hg, h2, h3, by omega, by rw [Nat.mul_one]; exact h4⟩⟩
theorem PilP.of {w : World} {g cap base n : Nat} {us : List Value} (h : w.ownsRow base 22 1 (.slice (some ⟨g, 0, none⟩) n cap) n us) : PilP w g cap us ∧ us.length = n := by
 have hl : us.length = n := by have := h.1; omega
 rcases h.2 with ⟨h0, _⟩ | ⟨g', cap', cur, h0, hb, hg, hnc, hcm, hcs, ht⟩
 ·
  injection h0 with h0; cases h0
 ·
  injection h0 with h0 h1 h2
  injection h0 with h0
  injection h0 with h0
  subst h0 h2
  exact ⟨⟨cur, hg, by omega, by omega, hcm, by rw [hl]; rw [Nat.mul_one] at ht; exact ht⟩, hl⟩
theorem PilP.cell {w : World} {g cap : Nat} {us : List Value} (h : PilP w g cap us) (j : Nat) (hj : j < us.length) : w.cell? ⟨g, j, none⟩ = some (us.getD j undef) := by
 rw [World.ownsRow.cellAt (h.own (Nat.zero_le g)) j (by omega)]
 simp [List.getD, hj]
theorem PilP.frozen {w : World} {g cap : Nat} {us : List Value} (h : PilP w g cap us) (j : Nat) : w.frozen? ⟨g, j, none⟩ = false := World.ownsRow.frozenAt (h.own (Nat.zero_le g)) j
theorem PilP.take {w : World} {g cap : Nat} {us : List Value} (h : PilP w g cap us) (k : Nat) : PilP w g cap (us.take k) := by
 obtain ⟨cur, hg, h1, h2, h3, h4⟩ := h
 refine ⟨cur, hg, h1, by simp; omega, h3, ?_⟩
 conv => rhs; rw [← h4]
 rw [List.take_take]
 congr 1
 simp
theorem PilP.same {w w' : World} {g cap : Nat} {us : List Value} (h : PilP w g cap us) (hb : w'.heap[g]? = w.heap[g]?) : PilP w' g cap us := by
 obtain ⟨cur, hg, h1⟩ := h
 exact ⟨cur, by rw [hb]; exact hg, h1⟩
theorem PilP.set {w : World} {g cap : Nat} {us : List Value} (h : PilP w g cap us) (i : Nat) (v : Value) : PilP (w.setCell ⟨g, i, none⟩ v) g cap (us.set i v) := by
 obtain ⟨cur, hg, h1, h2, h3, h4⟩ := h
 refine ⟨cur.setIfInBounds i v, Joins.block_setCell hg v, by simp [h1], by simpa using h2, h3, ?_⟩
 rw [List.length_set, Array.toList_setIfInBounds, List.take_set, h4]
theorem PilP.noTag {w : World} {g cap : Nat} {us : List Value} (h : PilP w g cap us) : ¬ Tag w g := by
 rintro ⟨_, cur, hh⟩
 obtain ⟨cur', hg, _⟩ := h
 rw [hh] at hg
 simp only [Option.some.injEq, Obj.cells.injEq] at hg
 exact absurd hg.2.1 (by decide)
theorem pilP_new (w : World) (v : Value) : PilP (w.alloc (.cells #[v] 22 (0, 0))) w.heap.size 1 [v] := ⟨#[v], heap_alloc_new w _, rfl, Nat.le_refl _, by unfold maxLen; simp, rfl⟩
/-- The slices of a pile, the topmost first, hold these forests. -/
def Stk (w : World) : List Value → List F → Prop
 | [], [] => True
 | v :: vs, f :: fs => (∃ a n cap, v = .slice a n cap ∧ Sl w a n cap f) ∧ Stk w vs fs
 | _, _ => False
theorem Stk.len {w : World} : ∀ {vs : List Value} {fs : List F}, Stk w vs fs → vs.length = fs.length
 | [], [], _ => rfl
 | v :: vs, f :: fs, h => by simp only [List.length_cons]; rw [Stk.len h.2]
 | [], _ :: _, h => h.elim
 | _ :: _, [], h => h.elim
theorem rev_last (v : Value) (vs : List Value) : (v :: vs).reverse.getD vs.length undef = v := by simp [List.getD]
theorem rev_take (v : Value) (vs : List Value) : (v :: vs).reverse.take vs.length = vs.reverse := by
 rw [List.reverse_cons]
 exact List.take_left' (by simp)
theorem rev_set (v u : Value) (vs : List Value) : (v :: vs).reverse.set vs.length u = (u :: vs).reverse := by
 rw [List.reverse_cons, List.reverse_cons, List.set_append_right _ _ (by simp)]
 simp
/-- What a walk makes of a state, node by node. -/
def RS {σ : Type} (R : σ → Nd → Nat → σ → Prop) : σ → List (Nd × Nat) → σ → Prop
 | s, [], s' => s' = s
 | s, x :: xs, s' => ∃ m, R s x.1 x.2 m ∧ RS R m xs s'
theorem RS.snoc {σ : Type} {R : σ → Nd → Nat → σ → Prop} : ∀ {xs : List (Nd × Nat)} {s m s' : σ} {x : Nd} {d : Nat}, RS R s xs m → R m x d s' → RS R s (xs ++ [(x, d)]) s'
 | [], s, m, s', x, d, h, hr => by
  have h : m = s := h
  subst h
  exact ⟨s', hr, rfl⟩
 | y :: ys, s, m, s', x, d, ⟨q, hq, h⟩, hr => ⟨q, hq, RS.snoc h hr⟩
/-- What has been gone through so far, and how long it is. -/
def Done {σ : Type} (R : σ → Nd → Nat → σ → Prop) (s0 s : σ) (m : Nat) : Prop := ∃ xs, RS R s0 xs s ∧ xs.length = m
theorem done_nil {σ : Type} (R : σ → Nd → Nat → σ → Prop) (s0 : σ) : Done R s0 s0 0 := ⟨[], rfl, rfl⟩
theorem Done.snoc {σ : Type} {R : σ → Nd → Nat → σ → Prop} {s0 s s' : σ} {m : Nat} {x : Nd} {d : Nat} (h : Done R s0 s m) (hr : R s x d s') : Done R s0 s' (m + 1) := by
 obtain ⟨xs, h1, h2⟩ := h
 exact ⟨xs ++ [(x, d)], h1.snoc hr, by simp [h2]⟩
end Go.Proofs.YtiknnobgoamgcaaGreatDoor
