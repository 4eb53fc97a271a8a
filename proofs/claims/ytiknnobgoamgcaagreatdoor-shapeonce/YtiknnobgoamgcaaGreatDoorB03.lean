/-
  4 texts in one.
-/
import Derived.Test.YtiknnobgoamgcaaGreatDoorB02
/-
  The parser: take a word, want a word, open, skip semicolons, a leaf.
-/
namespace Go.Proofs.YtiknnobgoamgcaaGreatDoor
open Go.RowKit Go.Lib Go.Sort
set_option linter.unusedSimpArgs false
set_option linter.unusedVariables false
/-- The word j is at fault. -/
def Bad (g : Nat) (tv : Value) (L : List Tk) (j : Nat) (w : World) (e : Ending) (w' : World) : Prop := e = .panicked PC ∧ (∃ d', PaW g tv L j d' w') ∧ MoP g w w'
def OkV (g : Nat) (tv : Value) (L : List Tk) (v : Value) (j d : Nat) (w : World) (e : Ending) (w' : World) : Prop := e = .returned v ∧ PaW g tv L j d w' ∧ MoP g w w'
section
variable {g : Nat} {tv : Value} {L : List Tk} {i d : Nat} {w w' w1 : World}
theorem Bad.pre {j : Nat} {e : Ending} (h : Bad g tv L j w1 e w') (hm : MoP g w w1) : Bad g tv L j w e w' := ⟨h.1, h.2.1, hm.trans h.2.2⟩
theorem OkV.pre {v : Value} {j d : Nat} {e : Ending} (h : OkV g tv L v j d w1 e w') (hm : MoP g w w1) : OkV g tv L v j d w e w' := ⟨h.1, h.2.1, hm.trans h.2.2⟩
theorem PaW.alloc (h : PaW g tv L i d w) (o : Obj) : PaW g tv L i d (w.alloc o) ∧ MoP g w (w.alloc o) := ⟨h.below (below_alloc w o), mop_below (below_alloc w o)⟩
end
set_option maxHeartbeats 2000000 in
set_option maxRecDepth 100000 in
theorem paTake_no {g : Nat} {tv : Value} {L : List Tk} {i d : Nat} {w : World} (h : PaW g tv L i d w) (t : Tk) (ht : eqB (tkA L i) t = false) : Calls Tryz.prog 67 #[.pointer (some ⟨g, 0, none⟩), t.val] w fun e w' => OkV g tv L (.bool false) i d w e w' := by
 have hA := h.alloc (t.obj (0, 0))
 have hx := (Blk.alloc w t).box
 have hI := zH (paIs_any hA.1 t)
 rw [ht] at hI
 obtain ⟨k, s, p, l, q⟩ := t
 unfold Tk.val at hI ⊢
 unfold Tk.obj at hA hx hI
 dsimp only at hA hx hI ⊢
 obtain ⟨x0, x1, x2, x3, x4⟩ := hx
 replace h := zH h
 replace hA := zH hA
 clear ht
 go_enter Tryz.func67, Tryz.ntmps67
 go_wp2_with fail
 refine (uH hI).mono ?_
 rintro e W ⟨rfl, hb⟩
 have hF := zH (And.intro ((uH hA).1.below hb) ((uH hA).2.trans (mop_below hb)))
 clear hI hA hb
 go_wp2
 go_ret
 exact ⟨rfl, (uH hF).1, (uH hF).2⟩
set_option maxHeartbeats 2000000 in
set_option maxRecDepth 100000 in
theorem paTake_yes {g : Nat} {tv : Value} {L : List Tk} {i d : Nat} {w : World} (h : PaW g tv L i d w) (t : Tk) (ht : eqB (tkA L i) t = true) (hi : i < L.length) : Calls Tryz.prog 67 #[.pointer (some ⟨g, 0, none⟩), t.val] w fun e w' => OkV g tv L (.bool true) (i + 1) d w e w' := by
 have hA := h.alloc (t.obj (0, 0))
 have hx := (Blk.alloc w t).box
 have hI := zH (paIs_any hA.1 t)
 rw [ht] at hI
 obtain ⟨k, s, p, l, q⟩ := t
 unfold Tk.val at hI ⊢
 unfold Tk.obj at hA hx hI
 dsimp only at hA hx hI ⊢
 obtain ⟨x0, x1, x2, x3, x4⟩ := hx
 replace h := zH h
 replace hA := zH hA
 clear ht
 go_enter Tryz.func67, Tryz.ntmps67
 go_wp2_with fail
 refine (uH hI).mono ?_
 rintro e W ⟨rfl, hb⟩
 have hF := zH (And.intro ((uH hA).1.below hb) ((uH hA).2.trans (mop_below hb)))
 clear hI hA hb
 go_wp2_with fail
 refine (paNext_any (uH hF).1 hi).mono ?_
 rintro e W2 ⟨rfl, h2, hm⟩
 have hG := zH (And.intro h2 ((uH hF).2.trans hm))
 clear hF h2 hm
 go_wp2
 go_ret
 exact ⟨rfl, (uH hG).1, (uH hG).2⟩
set_option maxHeartbeats 2000000 in
set_option maxRecDepth 100000 in
theorem paWant_no {g : Nat} {tv : Value} {L : List Tk} {i d : Nat} {w : World} (h : PaW g tv L i d w) (t : Tk) (ht : eqB (tkA L i) t = false) : Calls Tryz.prog 63 #[.pointer (some ⟨g, 0, none⟩), t.val] w fun e w' => Bad g tv L i w e w' := by
 have hA := h.alloc (t.obj (0, 0))
 have hx := (Blk.alloc w t).box
 have hI := zH (paIs_any hA.1 t)
 rw [ht] at hI
 obtain ⟨k, s, p, l, q⟩ := t
 unfold Tk.val at hI ⊢
 unfold Tk.obj at hA hx hI
 dsimp only at hA hx hI ⊢
 obtain ⟨x0, x1, x2, x3, x4⟩ := hx
 replace h := zH h
 replace hA := zH hA
 clear ht
 go_enter Tryz.func63, Tryz.ntmps63
 go_wp2_with fail
 refine (uH hI).mono ?_
 rintro e W ⟨rfl, hb⟩
 have hF := zH (And.intro ((uH hA).1.below hb) ((uH hA).2.trans (mop_below hb)))
 clear hI hA hb
 go_wp2_with fail
 refine (paFail_any g W).mono ?_
 rintro e W1 ⟨rfl, rfl⟩
 go_wp2
 exact ⟨rfl, rfl, ⟨d, (uH hF).1⟩, (uH hF).2⟩
set_option maxHeartbeats 2000000 in
set_option maxRecDepth 100000 in
theorem paWant_yes {g : Nat} {tv : Value} {L : List Tk} {i d : Nat} {w : World} (h : PaW g tv L i d w) (t : Tk) (ht : eqB (tkA L i) t = true) (hi : i < L.length) : Calls Tryz.prog 63 #[.pointer (some ⟨g, 0, none⟩), t.val] w fun e w' => OkV g tv L (.int .i64 i) (i + 1) d w e w' := by
 have hA := h.alloc (t.obj (0, 0))
 have hx := (Blk.alloc w t).box
 have hI := zH (paIs_any hA.1 t)
 rw [ht] at hI
 obtain ⟨k, s, p, l, q⟩ := t
 unfold Tk.val at hI ⊢
 unfold Tk.obj at hA hx hI
 dsimp only at hA hx hI ⊢
 obtain ⟨x0, x1, x2, x3, x4⟩ := hx
 replace h := zH h
 replace hA := zH hA
 clear ht
 go_enter Tryz.func63, Tryz.ntmps63
 go_wp2_with fail
 refine (uH hI).mono ?_
 rintro e W ⟨rfl, hb⟩
 have hF := zH (And.intro ((uH hA).1.below hb) ((uH hA).2.trans (mop_below hb)))
 clear hI hA hb
 go_wp2_with fail
 refine (paNext_any (uH hF).1 hi).mono ?_
 rintro e W2 ⟨rfl, h2, hm⟩
 have hG := zH (And.intro h2 ((uH hF).2.trans hm))
 clear hF h2 hm
 go_wp2
 go_ret
 exact ⟨rfl, (uH hG).1, (uH hG).2⟩
set_option maxHeartbeats 2000000 in
set_option maxRecDepth 100000 in
theorem paWantKind_no {g : Nat} {tv : Value} {L : List Tk} {i d : Nat} {w : World} (h : PaW g tv L i d w) (k : Int) (ht : knd L i k = false) : Calls Tryz.prog 70 #[.pointer (some ⟨g, 0, none⟩), .int .i64 k] w fun e w' => Bad g tv L i w e w' := by
 have hI := zH (paIsKind_any h k)
 rw [ht] at hI
 replace h := zH h
 clear ht
 go_enter Tryz.func70, Tryz.ntmps70
 go_wp2_with fail
 refine (uH hI).mono ?_
 rintro e W ⟨rfl, hb⟩
 have hF := zH (And.intro ((uH h).below hb) (mop_below (g := g) hb))
 clear hI hb
 go_wp2_with fail
 refine (paFail_any g W).mono ?_
 rintro e W1 ⟨rfl, rfl⟩
 go_wp2
 exact ⟨rfl, rfl, ⟨d, (uH hF).1⟩, (uH hF).2⟩
set_option maxHeartbeats 2000000 in
set_option maxRecDepth 100000 in
theorem paWantKind_yes {g : Nat} {tv : Value} {L : List Tk} {i d : Nat} {w : World} (h : PaW g tv L i d w) (k : Int) (ht : knd L i k = true) (hk : k ≠ 0) : Calls Tryz.prog 70 #[.pointer (some ⟨g, 0, none⟩), .int .i64 k] w fun e w' => OkV g tv L (.int .i64 i) (i + 1) d w e w' := by
 have hI := zH (paIsKind_any h k)
 have hi := knd_lt ht hk
 rw [ht] at hI
 replace h := zH h
 clear ht
 go_enter Tryz.func70, Tryz.ntmps70
 go_wp2_with fail
 refine (uH hI).mono ?_
 rintro e W ⟨rfl, hb⟩
 have hF := zH (And.intro ((uH h).below hb) (mop_below (g := g) hb))
 clear hI hb
 go_wp2_with fail
 refine (paNext_any (uH hF).1 hi).mono ?_
 rintro e W2 ⟨rfl, h2, hm⟩
 have hG := zH (And.intro h2 ((uH hF).2.trans hm))
 clear hF h2 hm
 go_wp2
 go_ret
 exact ⟨rfl, (uH hG).1, (uH hG).2⟩
set_option maxHeartbeats 2000000 in
set_option maxRecDepth 100000 in
theorem paOpen_deep {g : Nat} {tv : Value} {L : List Tk} {i : Nat} {w : World} (h : PaW g tv L i 40 w) (t : Tk) : Calls Tryz.prog 106 #[.pointer (some ⟨g, 0, none⟩), t.val] w fun e w' => Bad g tv L i w e w' := by
 have hA := h.alloc (t.obj (0, 0))
 obtain ⟨k, s, p, l, q⟩ := t
 unfold Tk.val
 unfold Tk.obj at hA
 dsimp only at hA ⊢
 replace h := zH h
 replace hA := zH hA
 go_enter Tryz.func106, Tryz.ntmps106
 go_wp2_with fail
 refine (paEnter_bad (uH hA).1).mono ?_
 rintro e W ⟨rfl, rfl⟩
 go_wp2
 exact ⟨rfl, rfl, ⟨40, (uH hA).1⟩, (uH hA).2⟩
set_option maxHeartbeats 2000000 in
set_option maxRecDepth 100000 in
theorem paOpen_no {g : Nat} {tv : Value} {L : List Tk} {i d : Nat} {w : World} (h : PaW g tv L i d w) (hd : d < 40) (t : Tk) (ht : eqB (tkA L i) t = false) : Calls Tryz.prog 106 #[.pointer (some ⟨g, 0, none⟩), t.val] w fun e w' => Bad g tv L i w e w' := by
 have hA := h.alloc (t.obj (0, 0))
 have hx := (Blk.alloc w t)
 obtain ⟨k, s, p, l, q⟩ := t
 have hW := zH (fun W (hW : PaW g tv L i (d + 1) W) => paWant_no hW ⟨k, s, p, l, q⟩ ht)
 unfold Tk.val at hW ⊢
 have hx' := zH hx
 unfold Tk.obj at hA
 dsimp only at hA hW ⊢
 replace h := zH h
 replace hA := zH hA
 clear ht hx
 go_enter Tryz.func106, Tryz.ntmps106
 go_wp2_with fail
 refine (paEnter_any (uH hA).1 hd).mono ?_
 rintro e W ⟨rfl, h2, hm⟩
 obtain ⟨x0, x1, x2, x3, x4⟩ := Blk.box (w := W) (b := w.heap.size) (t := ⟨k, s, p, l, q⟩) ((hm.block w.heap.size (by simp) (by have := (uH h).lt; omega)).trans (uH hx'))
 have hF := zH (And.intro h2 ((uH hA).2.trans hm))
 clear hA h2 hm hx'
 dsimp only at x0 x1 x2 x3 x4
 go_wp2_with fail
 refine (uH hW _ (uH hF).1).mono ?_
 rintro e W2 hBad
 obtain rfl := hBad.1
 have hG := zH (hBad.pre (uH hF).2)
 clear hBad hF
 go_wp2
 exact ⟨rfl, uH hG⟩
set_option maxHeartbeats 2000000 in
set_option maxRecDepth 100000 in
theorem paOpen_yes {g : Nat} {tv : Value} {L : List Tk} {i d : Nat} {w : World} (h : PaW g tv L i d w) (hd : d < 40) (t : Tk) (ht : eqB (tkA L i) t = true) (hi : i < L.length) : Calls Tryz.prog 106 #[.pointer (some ⟨g, 0, none⟩), t.val] w fun e w' => OkV g tv L (.int .i64 i) (i + 1) (d + 1) w e w' := by
 have hA := h.alloc (t.obj (0, 0))
 have hx := (Blk.alloc w t)
 obtain ⟨k, s, p, l, q⟩ := t
 have hW := zH (fun W (hW : PaW g tv L i (d + 1) W) => paWant_yes hW ⟨k, s, p, l, q⟩ ht hi)
 unfold Tk.val at hW ⊢
 have hx' := zH hx
 unfold Tk.obj at hA
 dsimp only at hA hW ⊢
 replace h := zH h
 replace hA := zH hA
 clear ht hx
 go_enter Tryz.func106, Tryz.ntmps106
 go_wp2_with fail
 refine (paEnter_any (uH hA).1 hd).mono ?_
 rintro e W ⟨rfl, h2, hm⟩
 obtain ⟨x0, x1, x2, x3, x4⟩ := Blk.box (w := W) (b := w.heap.size) (t := ⟨k, s, p, l, q⟩) ((hm.block w.heap.size (by simp) (by have := (uH h).lt; omega)).trans (uH hx'))
 have hF := zH (And.intro h2 ((uH hA).2.trans hm))
 clear hA h2 hm hx'
 dsimp only at x0 x1 x2 x3 x4
 go_wp2_with fail
 refine (uH hW _ (uH hF).1).mono ?_
 rintro e W2 hOk
 obtain rfl := hOk.1
 have hG := zH (hOk.pre (uH hF).2)
 clear hOk hF
 go_wp2
 go_ret
 exact uH hG
end Go.Proofs.YtiknnobgoamgcaaGreatDoor
/-
  The parser: what a piece of the grammar leaves; a leaf; a name; semicolons.
-/
namespace Go.Proofs.YtiknnobgoamgcaaGreatDoor
open Go.RowKit Go.Lib Go.Sort
set_option linter.unusedSimpArgs false
set_option linter.unusedVariables false
/-- A node came: what is beneath it lies in blocks from B on. -/
def OkN (B : Nat) (g : Nat) (tv : Value) (L : List Tk) (n : Nd) (j d : Nat) (w : World) (e : Ending) (w' : World) : Prop :=
 ∃ (a : Option Addr) (m c : Nat), e = .returned (.agg #[.int .i64 n.k, .int .i64 n.t, .slice a m c]) ∧ SlQ (fun x => B ≤ x) w' a m c n.c ∧ PaW g tv L j d w' ∧ MoP g w w'
/-- A list of nodes came. -/
def OkF (B : Nat) (g : Nat) (tv : Value) (L : List Tk) (f : F) (j d : Nat) (w : World) (e : Ending) (w' : World) : Prop :=
 ∃ (a : Option Addr) (c : Nat), e = .returned (.slice a f.len c) ∧ SlQ (fun x => B ≤ x) w' a f.len c f ∧ PaW g tv L j d w' ∧ MoP g w w'
def ResN (B : Nat) (g : Nat) (tv : Value) (L : List Tk) (d : Nat) (w : World) (r : PR Nd) (e : Ending) (w' : World) : Prop := match r with
 | .out => False
 | .bad j => Bad g tv L j w e w'
 | .ok n j => OkN B g tv L n j d w e w'
def ResF (B : Nat) (g : Nat) (tv : Value) (L : List Tk) (d : Nat) (w : World) (r : PR F) (e : Ending) (w' : World) : Prop := match r with
 | .out => False
 | .bad j => Bad g tv L j w e w'
 | .ok n j => OkF B g tv L n j d w e w'
section
variable {B g : Nat} {tv : Value} {L : List Tk} {i d : Nat} {w w' w1 : World}
theorem OkN.pre {n : Nd} {j d : Nat} {e : Ending} (h : OkN B g tv L n j d w1 e w') (hm : MoP g w w1) : OkN B g tv L n j d w e w' := by
 obtain ⟨a, m, c, h1, h2, h3, h4⟩ := h
 exact ⟨a, m, c, h1, h2, h3, hm.trans h4⟩
/-- The parser's block is no row of nodes. -/
theorem PaW.ntag {P : Nat → Prop} (h : PaW g tv L i d w) : ¬ TagQ P w g := fun ⟨_, cur, hh⟩ => by
 rw [h.st] at hh
 simp only [Option.some.injEq, Obj.cells.injEq] at hh
 exact absurd hh.2.1 (by decide)
theorem SlQ.mop {P : Nat → Prop} {a : Option Addr} {n cap : Nat} {c : F} (hs : SlQ P w a n cap c) (h : PaW g tv L i d w) (hm : MoP g w w') : SlQ P w' a n cap c :=
 hs.keep (fun x hx => hm.block x hx.lt (fun e => h.ntag (e ▸ hx)))
theorem NBlk.mop {b : Nat} {k t : Int} {a : Option Addr} {n cap : Nat} (hb : NBlk w b k t a n cap) (h : PaW g tv L i d w) (hm : MoP g w w') : NBlk w' b k t a n cap :=
 hb.same (hm.block b hb.lt (fun e => by
  subst e
  have := h.st
  rw [hb] at this
  simp at this))
end
/-- Where a function ends: a node is laid into the result's block. -/
theorem res_fin {B g gb : Nat} {tv : Value} {L : List Tk} {j d : Nat} {w W : World} {k t k' t' : Int} {a a' : Option Addr} {m c m' c' : Nat} {f : F} (hgb : B ≤ gb) (hw : w.heap.size ≤ gb) (hN : NBlk W gb k' t' a' m' c') (hS : SlQ (fun x => B ≤ x ∧ x ≠ gb) W a m c f) (hP : PaW g tv L j d W) (hM : MoP g w W) :
  NBlk (((W.setCell ⟨gb, 0, none⟩ (.int .i64 k)).setCell ⟨gb, 1, none⟩ (.int .i64 t)).setCell ⟨gb, 2, none⟩ (.slice a m c)) gb k t a m c ∧
  SlQ (fun x => B ≤ x) (((W.setCell ⟨gb, 0, none⟩ (.int .i64 k)).setCell ⟨gb, 1, none⟩ (.int .i64 t)).setCell ⟨gb, 2, none⟩ (.slice a m c)) a m c f ∧
  PaW g tv L j d (((W.setCell ⟨gb, 0, none⟩ (.int .i64 k)).setCell ⟨gb, 1, none⟩ (.int .i64 t)).setCell ⟨gb, 2, none⟩ (.slice a m c)) ∧
  MoP g w (((W.setCell ⟨gb, 0, none⟩ (.int .i64 k)).setCell ⟨gb, 1, none⟩ (.int .i64 t)).setCell ⟨gb, 2, none⟩ (.slice a m c)) := by
 have hne : g ≠ gb := fun e => by
  subst e
  have := hP.st
  rw [hN] at this
  simp at this
 have hh : ∀ x, x ≠ gb → (((W.setCell ⟨gb, 0, none⟩ (.int .i64 k)).setCell ⟨gb, 1, none⟩ (.int .i64 t)).setCell ⟨gb, 2, none⟩ (.slice a m c)).heap[x]? = W.heap[x]? := fun x hx => by
  rw [Below.heap_setCell _ _ _ x hx, Below.heap_setCell _ _ _ x hx, Below.heap_setCell _ _ _ x hx]
 have htk : ∀ x, tv.ownBlock = some x → 0 < L.length → x ≠ gb := fun x hx h0 e => by
  subst e
  obtain ⟨a0, c0, rfl, h2, h3, h4⟩ := hP.tk
  obtain ⟨g0, rfl, hg, hc⟩ := h4 h0
  obtain rfl : g0 = x := by simpa [Value.ownBlock] using hx
  obtain ⟨t0, ht0⟩ : ∃ t0, L[0]? = some t0 := ⟨L[0], List.getElem?_eq_getElem h0⟩
  have h1 := (hc 0 _ ht0).2.1
  have h2 := hN.box.2.1
  simp at h1
  rw [h1] at h2
  cases h2
 refine ⟨hN.set3, ?_, ⟨(hh g hne).trans hP.st, ?_, hP.ln, hP.ne⟩, hM.os, hM.tape, hM.output, by simp; exact hM.size, fun x hx hc => (hh x (by omega)).trans (hM.block x hx hc), fun _ h => .inl h⟩
 ·
  exact (hS.keep (fun x hx => hh x hx.1.2)).mono (fun x hx => hx.1.1)
 ·
  rcases Nat.eq_zero_or_pos L.length with h0 | h0
  ·
   obtain ⟨a0, c0, e0, h2, h3, _⟩ := hP.tk
   exact ⟨a0, c0, e0, h2, h3, fun h1 => by omega⟩
  ·
   exact toks_keep hP.tk (by simp) (fun x hx => hh x (htk x hx h0))
set_option maxHeartbeats 2000000 in
set_option maxRecDepth 100000 in
theorem paLeaf_no {g : Nat} {tv : Value} {L : List Tk} {i d : Nat} {w : World} (h : PaW g tv L i d w) (kind k : Int) (ht : knd L i k = false) : Calls Tryz.prog 85 #[.pointer (some ⟨g, 0, none⟩), .int .i64 kind, .int .i64 k] w fun e w' => Bad g tv L i w e w' := by
 have hA := zH (h.alloc (.cells #[.int .i64 0, .int .i64 0, .slice none 0 0] 24 (0, 0)))
 have hW := zH (paWantKind_no (uH hA).1 k ht)
 replace h := zH h
 clear ht
 go_enter Tryz.func85, Tryz.ntmps85
 go_wp2_with fail
 refine (uH hW).mono ?_
 rintro e W2 hBad
 obtain rfl := hBad.1
 have hG := zH (hBad.pre (uH hA).2)
 clear hBad hA hW
 go_wp2
 exact ⟨rfl, uH hG⟩
set_option maxHeartbeats 2000000 in
set_option maxRecDepth 100000 in
theorem paLeaf_yes {g : Nat} {tv : Value} {L : List Tk} {i d : Nat} {w : World} (h : PaW g tv L i d w) (kind k : Int) (ht : knd L i k = true) (hk : k ≠ 0) : Calls Tryz.prog 85 #[.pointer (some ⟨g, 0, none⟩), .int .i64 kind, .int .i64 k] w fun e w' => OkN w.heap.size g tv L ⟨kind, i, .nil⟩ (i + 1) d w e w' := by
 have hA := zH (h.alloc (.cells #[.int .i64 0, .int .i64 0, .slice none 0 0] 24 (0, 0)))
 have hN := zH (nblk_new w 0 0 none 0 0)
 have hW := zH (paWantKind_yes (uH hA).1 k ht hk)
 obtain ⟨gb, hgb⟩ : ∃ gb, w.heap.size = gb := ⟨_, rfl⟩
 rw [hgb] at hN
 replace h := zH h
 clear ht
 go_enter Tryz.func85, Tryz.ntmps85
 go_wp2_with fail
 refine (uH hW).mono ?_
 rintro e W2 ⟨rfl, h2, hm⟩
 have hN2 := (uH hN).mop (uH hA).1 hm
 have hF := zH (res_fin (k := kind) (t := i) (a := none) (m := 0) (c := 0) (f := .nil) (B := gb) (w := w) (Nat.le_refl gb) (by omega) hN2 (sl_nil _ none 0 (Nat.zero_le _) (fun _ => rfl)) h2 ((uH hA).2.trans hm))
 have f0 := hN2.frozen 0
 have f1 := hN2.frozen 1
 have f2 := hN2.frozen 2
 obtain ⟨p0, p1, p2⟩ := hN2.box
 clear hA hN hW h2 hm hN2
 go_wp2
 obtain ⟨q1, q2, q3, q4⟩ := uH hF
 obtain ⟨u0, u1, u2⟩ := q1.box
 refine bodyPost_ret (v := .agg #[.int .i64 kind, .int .i64 i, .slice none 0 0]) (by simp [results, Tryz.results85, go_sem, u0, u1, u2]) rfl ?_
 exact ⟨none, 0, 0, rfl, (by rw [hgb]; exact q2), q3, q4⟩
/-- A leaf, by the word. -/
theorem paLeaf_any {g : Nat} {tv : Value} {L : List Tk} {i d : Nat} {w : World} (h : PaW g tv L i d w) (kind k : Int) (hk : k ≠ 0) : Calls Tryz.prog 85 #[.pointer (some ⟨g, 0, none⟩), .int .i64 kind, .int .i64 k] w fun e w' => ResN w.heap.size g tv L d w (leafA L kind k i) e w' := by
 unfold leafA
 cases ht : knd L i k with
 | false => exact paLeaf_no h kind k ht
 | true => exact paLeaf_yes h kind k ht hk
section
variable {B g b : Nat} {tv : Value} {L : List Tk} {i d : Nat} {w W W' : World} {k t : Int} {a : Option Addr} {n cap : Nat}
/-- A box is written: the parser's block and words stay. -/
theorem PaW.box (h : PaW g tv L i d W) (hN : NBlk W b k t a n cap) (hs : W.heap.size ≤ W'.heap.size) (hh : ∀ x, x ≠ b → W'.heap[x]? = W.heap[x]?) : PaW g tv L i d W' := by
 have hne : g ≠ b := fun e => by
  subst e
  have := h.st
  rw [hN] at this
  simp at this
 refine ⟨(hh g hne).trans h.st, ?_, h.ln, h.ne⟩
 rcases Nat.eq_zero_or_pos L.length with h0 | h0
 ·
  obtain ⟨a0, c0, e0, h2, h3, _⟩ := h.tk
  exact ⟨a0, c0, e0, h2, h3, fun h1 => by omega⟩
 ·
  refine toks_keep h.tk hs (fun x hx => hh x (fun e => ?_))
  subst e
  obtain ⟨a0, c0, rfl, h2, h3, h4⟩ := h.tk
  obtain ⟨g0, rfl, hg, hc⟩ := h4 h0
  obtain rfl : g0 = x := by simpa [Value.ownBlock] using hx
  have h1 := (hc 0 _ (List.getElem?_eq_getElem h0)).2.1
  have h2 := hN.box.2.1
  simp at h1
  rw [h1] at h2
  cases h2
theorem mop_box (h : MoP g w W) (hb : w.heap.size ≤ b) (hos : W'.os = W.os) (hta : W'.tape = W.tape) (hou : W'.output = W.output) (hs : W.heap.size ≤ W'.heap.size) (hh : ∀ x, x ≠ b → W'.heap[x]? = W.heap[x]?) : MoP g w W' :=
 ⟨hos.trans h.os, hta.trans h.tape, hou.trans h.output, Nat.le_trans h.size hs, fun x hx hc => (hh x (by omega)).trans (h.block x hx hc), fun _ h => .inl h⟩
/-- A box's Kids are written. -/
theorem kid_set (h : PaW g tv L i d W) (hM : MoP g w W) (hN : NBlk W b k t a n cap) (hb : w.heap.size ≤ b) (a' : Option Addr) (n' cap' : Nat) :
  PaW g tv L i d (W.setCell ⟨b, 2, none⟩ (.slice a' n' cap')) ∧ MoP g w (W.setCell ⟨b, 2, none⟩ (.slice a' n' cap')) ∧ NBlk (W.setCell ⟨b, 2, none⟩ (.slice a' n' cap')) b k t a' n' cap' ∧ ∀ x, x ≠ b → (W.setCell ⟨b, 2, none⟩ (.slice a' n' cap')).heap[x]? = W.heap[x]? := by
 have hh : ∀ x, x ≠ b → (W.setCell ⟨b, 2, none⟩ (.slice a' n' cap')).heap[x]? = W.heap[x]? := fun x hx => Below.heap_setCell _ _ _ x hx
 exact ⟨h.box hN (by simp) hh, mop_box hM hb rfl rfl rfl (by simp) hh, hN.set, hh⟩
/-- A whole box is written. -/
theorem box_set (h : PaW g tv L i d W) (hM : MoP g w W) (hN : NBlk W b k t a n cap) (hb : w.heap.size ≤ b) (k' t' : Int) (a' : Option Addr) (n' cap' : Nat) :
  PaW g tv L i d (((W.setCell ⟨b, 0, none⟩ (.int .i64 k')).setCell ⟨b, 1, none⟩ (.int .i64 t')).setCell ⟨b, 2, none⟩ (.slice a' n' cap')) ∧ MoP g w (((W.setCell ⟨b, 0, none⟩ (.int .i64 k')).setCell ⟨b, 1, none⟩ (.int .i64 t')).setCell ⟨b, 2, none⟩ (.slice a' n' cap')) ∧
  NBlk (((W.setCell ⟨b, 0, none⟩ (.int .i64 k')).setCell ⟨b, 1, none⟩ (.int .i64 t')).setCell ⟨b, 2, none⟩ (.slice a' n' cap')) b k' t' a' n' cap' ∧ ∀ x, x ≠ b → (((W.setCell ⟨b, 0, none⟩ (.int .i64 k')).setCell ⟨b, 1, none⟩ (.int .i64 t')).setCell ⟨b, 2, none⟩ (.slice a' n' cap')).heap[x]? = W.heap[x]? := by
 have hh : ∀ x, x ≠ b → (((W.setCell ⟨b, 0, none⟩ (.int .i64 k')).setCell ⟨b, 1, none⟩ (.int .i64 t')).setCell ⟨b, 2, none⟩ (.slice a' n' cap')).heap[x]? = W.heap[x]? := fun x hx => by rw [Below.heap_setCell _ _ _ x hx, Below.heap_setCell _ _ _ x hx, Below.heap_setCell _ _ _ x hx]
 exact ⟨h.box hN (by simp) hh, mop_box hM hb rfl rfl rfl (by simp) hh, hN.set3, hh⟩
end
/-- A literal of one node: what is beneath lies from B on, below the world's end. -/
theorem lit1_sl {P : Nat → Prop} (W : World) (k t : Int) (a : Option Addr) (n cap : Nat) (c : F) (h : SlQ P W a n cap c) (hP : P W.heap.size) :
  SlQ P (W.alloc (.cells #[.int .i64 k, .int .i64 t, .slice a n cap] 24 (0, 0))) (some ⟨W.heap.size, 0, none⟩) 1 1 (.cons k t c .nil) :=
 ⟨rfl, ⟨Nat.le_refl _, fun h => by cases h⟩, by unfold maxLen; omega, fun _ => ⟨W.heap.size, 0, rfl, ⟨hP, _, heap_alloc_new W _⟩,
  (boxN_new W k t a n cap).1, (boxN_new W k t a n cap).2.1, ⟨a, n, cap, (boxN_new W k t a n cap).2.2, h.below (below_alloc _ _)⟩, trivial⟩⟩
theorem lit2_sl {P : Nat → Prop} (W : World) (k t k' t' : Int) (a a' : Option Addr) (n cap n' cap' : Nat) (c c' : F) (h : SlQ P W a n cap c) (h' : SlQ P W a' n' cap' c') (hP : P W.heap.size) :
  SlQ P (W.alloc (.cells #[.int .i64 k, .int .i64 t, .slice a n cap, .int .i64 k', .int .i64 t', .slice a' n' cap'] 24 (0, 0))) (some ⟨W.heap.size, 0, none⟩) 2 2 (.cons k t c (.cons k' t' c' .nil)) := by
 have hc : ∀ j u, (#[Value.int .i64 k, .int .i64 t, .slice a n cap, .int .i64 k', .int .i64 t', .slice a' n' cap'] : Array Value)[j]? = some u → (W.alloc (.cells #[.int .i64 k, .int .i64 t, .slice a n cap, .int .i64 k', .int .i64 t', .slice a' n' cap'] 24 (0, 0))).cell? ⟨W.heap.size, 0 + j, none⟩ = some u := fun j u hj => by
  rw [Nat.zero_add, World.cell?_alloc_mark]
  exact hj
 exact ⟨rfl, ⟨Nat.le_refl _, fun h => by cases h⟩, by unfold maxLen; omega, fun _ => ⟨W.heap.size, 0, rfl, ⟨hP, _, heap_alloc_new W _⟩,
  hc 0 _ rfl, hc 1 _ rfl, ⟨a, n, cap, hc 2 _ rfl, h.below (below_alloc _ _)⟩,
  hc 3 _ rfl, hc 4 _ rfl, ⟨a', n', cap', hc 5 _ rfl, h'.below (below_alloc _ _)⟩, trivial⟩⟩
end Go.Proofs.YtiknnobgoamgcaaGreatDoor
/-
  The parser: a name, a type, a name and its type.
-/
namespace Go.Proofs.YtiknnobgoamgcaaGreatDoor
open Go.RowKit Go.Lib Go.Sort
set_option linter.unusedSimpArgs false
set_option linter.unusedVariables false
set_option maxHeartbeats 4000000 in
set_option maxRecDepth 100000 in
theorem paNamed_any {g : Nat} {tv : Value} {L : List Tk} {i d : Nat} {w : World} (h : PaW g tv L i d w) (kind : Int) : Calls Tryz.prog 65 #[.pointer (some ⟨g, 0, none⟩), .int .i64 kind] w fun e w' => ResN w.heap.size g tv L d w (leafA L kind 1 i) e w' := by
 have hA := zH (h.alloc (.cells #[.int .i64 0, .int .i64 0, .slice none 0 0] 24 (0, 0)))
 have hN := zH (nblk_new w 0 0 none 0 0)
 obtain ⟨gb, hgb⟩ : ∃ gb, w.heap.size = gb := ⟨_, rfl⟩
 have hz1 : (w.alloc (.cells #[.int .i64 0, .int .i64 0, .slice none 0 0] 24 (0, 0))).heap.size = gb + 1 := by simp [hgb]
 have hgl : g < gb := by have := h.lt; omega
 rw [hgb] at hN
 have hC := paLeaf_any (uH hA).1 kind 1 (by decide)
 have hne : leafA L kind 1 i ≠ .out := by unfold leafA; split <;> simp
 rw [hz1] at hC
 replace h := zH h
 generalize hr : leafA L kind 1 i = r at hC hne ⊢
 cases r with
 | out => exact absurd rfl hne
 | bad j =>
  replace hC := zH hC
  go_enter Tryz.func65, Tryz.ntmps65
  go_wp2_with fail
  refine (uH hC).mono ?_
  rintro e W2 hBad
  obtain rfl := hBad.1
  have hG := zH (hBad.pre (uH hA).2)
  clear hBad hA hC
  go_wp2
  exact ⟨rfl, uH hG⟩
 | ok n j =>
  obtain ⟨nk, nt, nc⟩ := n
  replace hC := zH hC
  go_enter Tryz.func65, Tryz.ntmps65
  go_wp2_with fail
  refine (uH hC).mono ?_
  rintro e W2 ⟨a, m, c, rfl, hs, h2, hm⟩
  dsimp only at hs ⊢
  have hN2 := (uH hN).mop (uH hA).1 hm
  have hF := zH (res_fin (k := nk) (t := nt) (a := a) (m := m) (c := c) (f := nc) (B := gb) (w := w) (Nat.le_refl gb) (by omega) hN2 (hs.mono (fun x hx => by have := hx.1; omega)) h2 ((uH hA).2.trans hm))
  have f0 := hN2.frozen 0
  have f1 := hN2.frozen 1
  have f2 := hN2.frozen 2
  obtain ⟨p0, p1, p2⟩ := hN2.box
  clear hA hN hC h2 hm hN2 hs
  go_wp2
  obtain ⟨q1, q2, q3, q4⟩ := uH hF
  obtain ⟨u0, u1, u2⟩ := q1.box
  refine bodyPost_ret (v := .agg #[.int .i64 nk, .int .i64 nt, .slice a m c]) (by simp [results, Tryz.results65, go_sem, u0, u1, u2]) rfl ?_
  exact ⟨a, m, c, rfl, (by rw [hgb]; exact q2), q3, q4⟩
theorem paNamed_yes {g : Nat} {tv : Value} {L : List Tk} {i d : Nat} {w : World} (h : PaW g tv L i d w) (kind : Int) (ht : knd L i 1 = true) : Calls Tryz.prog 65 #[.pointer (some ⟨g, 0, none⟩), .int .i64 kind] w fun e w' => OkN w.heap.size g tv L ⟨kind, i, .nil⟩ (i + 1) d w e w' := by
 have := paNamed_any h kind
 unfold leafA at this
 rw [if_pos ht] at this
 exact this
theorem paNamed_no {g : Nat} {tv : Value} {L : List Tk} {i d : Nat} {w : World} (h : PaW g tv L i d w) (kind : Int) (ht : knd L i 1 = false) : Calls Tryz.prog 65 #[.pointer (some ⟨g, 0, none⟩), .int .i64 kind] w fun e w' => Bad g tv L i w e w' := by
 have := paNamed_any h kind
 unfold leafA at this
 rw [if_neg (by simp [ht])] at this
 exact this
/-- What is not there has no nodes. -/
theorem sl_empty {P : Nat → Prop} {w : World} {a : Option Addr} {n cap : Nat} (h : SlQ P w a n cap .nil) : n = 0 := h.1
set_option maxHeartbeats 4000000 in
set_option maxRecDepth 100000 in
theorem paTypeName_any {g : Nat} {tv : Value} {L : List Tk} {i d : Nat} {w : World} (h : PaW g tv L i d w) : Calls Tryz.prog 112 #[.pointer (some ⟨g, 0, none⟩)] w fun e w' => ResN w.heap.size g tv L d w (typA L i) e w' := by
 unfold typA
 cases h1 : knd L i 1 with
 | false =>
  simp only [leafA, h1, PR.bind]
  have hP := zH (h.alloc (.cells #[.int .i64 0, .int .i64 0, .slice none 0 0] 24 (0, 0))).1
  have hM := zH (h.alloc (.cells #[.int .i64 0, .int .i64 0, .slice none 0 0] 24 (0, 0))).2
  have hN := zH (nblk_new w 0 0 none 0 0)
  obtain ⟨gb, hgb⟩ : ∃ gb, w.heap.size = gb := ⟨_, rfl⟩
  have hz : (w.alloc (.cells #[.int .i64 0, .int .i64 0, .slice none 0 0] 24 (0, 0))).heap.size = gb + 1 := by simp [hgb]
  have hgl : g < gb := by have := h.lt; omega
  rw [hgb] at hN
  obtain ⟨W1, hq_W1⟩ : ∃ W1, w.alloc (.cells #[.int .i64 0, .int .i64 0, .slice none 0 0] 24 (0, 0)) = W1 := ⟨_, rfl⟩
  rw [hq_W1] at hP hM hN hz
  replace hz := And.intro (Nat.le_of_eq hz) (Nat.le_of_eq hz.symm)
  replace h := zH h
  go_enter Tryz.func112, Tryz.ntmps112
  go_wp2_with fail
  clear hq_W1
  refine (paNamed_no (uH hP) 28 h1).mono ?_
  rintro e W2 hBad
  obtain rfl := hBad.1
  have hG := zH (hBad.pre (uH hM))
  clear hBad
  go_wp2
  exact ⟨rfl, uH hG⟩
 | true =>
  simp only [leafA, h1, PR.bind, if_true]
  cases h3 : opA L (i + 1) [46] with
  | false =>
   have hP := zH (h.alloc (.cells #[.int .i64 0, .int .i64 0, .slice none 0 0] 24 (0, 0))).1
   have hM := zH (h.alloc (.cells #[.int .i64 0, .int .i64 0, .slice none 0 0] 24 (0, 0))).2
   have hN := zH (nblk_new w 0 0 none 0 0)
   obtain ⟨gb, hgb⟩ : ∃ gb, w.heap.size = gb := ⟨_, rfl⟩
   have hz : (w.alloc (.cells #[.int .i64 0, .int .i64 0, .slice none 0 0] 24 (0, 0))).heap.size = gb + 1 := by simp [hgb]
   have hgl : g < gb := by have := h.lt; omega
   rw [hgb] at hN
   obtain ⟨W1, hq_W1⟩ : ∃ W1, w.alloc (.cells #[.int .i64 0, .int .i64 0, .slice none 0 0] 24 (0, 0)) = W1 := ⟨_, rfl⟩
   rw [hq_W1] at hP hM hN hz
   replace hz := And.intro (Nat.le_of_eq hz) (Nat.le_of_eq hz.symm)
   replace h := zH h
   go_enter Tryz.func112, Tryz.ntmps112
   go_wp2_with fail
   clear hq_W1
   refine (paNamed_yes (uH hP) 28 h1).mono ?_
   rintro e W2 ⟨a1, m1, c1, rfl, hs, h2, hm⟩
   have hzs := hm.size
   have hs1 := zH (hs.mono (P' := fun x => gb < x ∧ x < W2.heap.size) (fun x hx => by have := (uH hN).lt; have e1 := hx.1; have e2 := hx.lt; exact ⟨by omega, by omega⟩))
   clear hs
   replace hN := zH ((uH hN).mop (uH hP) hm)
   have hzz := hm.size
   replace hM := zH ((uH hM).trans hm)
   replace hP := zH h2
   clear hm h2
   dsimp only at hs1 ⊢
   obtain rfl := sl_empty (uH hs1)
   obtain ⟨b1, hq_b1⟩ : ∃ x, W2.heap.size = x := ⟨_, rfl⟩
   have hB := zH (nblk_new W2 28 i a1 0 c1)
   have hm := mop_below (g := g) (below_alloc W2 (.cells #[.int .i64 28, .int .i64 i, .slice a1 0 c1] 24 (0, 0)))
   have h2 := (uH hP).below (below_alloc W2 (.cells #[.int .i64 28, .int .i64 i, .slice a1 0 c1] 24 (0, 0)))
   have hzs : (W2.alloc (.cells #[.int .i64 28, .int .i64 i, .slice a1 0 c1] 24 (0, 0))).heap.size = b1 + 1 := by simp [hq_b1]
   obtain ⟨W3, hq_W3⟩ : ∃ x, W2.alloc (.cells #[.int .i64 28, .int .i64 i, .slice a1 0 c1] 24 (0, 0)) = x := ⟨_, rfl⟩
   rw [hq_W3] at hB hm h2 hzs
   replace hzs := And.intro (Nat.le_of_eq hzs) (Nat.le_of_eq hzs.symm)
   rw [hq_b1] at hB
   replace hq_W3 := zH hq_W3
   replace hN := zH ((uH hN).mop (uH hP) hm)
   replace hs1 := zH ((uH hs1).mop (uH hP) hm)
   have hzz := hm.size
   replace hM := zH ((uH hM).trans hm)
   replace hP := zH h2
   clear hm h2
   go_wp2_with fail
   rw [uH hq_W3]
   clear hq_W3
   refine (paOp_any _ _).mono ?_
   rintro e W4 ⟨rfl, hb⟩
   have h2 := (uH hP).below hb
   have hm := mop_below (g := g) hb
   clear hb
   replace hN := zH ((uH hN).mop (uH hP) hm)
   replace hB := zH ((uH hB).mop (uH hP) hm)
   replace hs1 := zH ((uH hs1).mop (uH hP) hm)
   have hzz := hm.size
   replace hM := zH ((uH hM).trans hm)
   replace hP := zH h2
   clear hm h2
   go_wp2_with fail
   refine (paTake_no (uH hP) (opT [46]) (by rw [eqB_op]; exact h3)).mono ?_
   rintro e W5 ⟨rfl, h2, hm⟩
   replace hN := zH ((uH hN).mop (uH hP) hm)
   replace hB := zH ((uH hB).mop (uH hP) hm)
   replace hs1 := zH ((uH hs1).mop (uH hP) hm)
   have hzz := hm.size
   replace hM := zH ((uH hM).trans hm)
   replace hP := zH h2
   clear hm h2
   obtain ⟨p0_hB, p1_hB, p2_hB⟩ := (uH hB).box
   have f0_hB := (uH hB).frozen 0
   have f1_hB := (uH hB).frozen 1
   have f2_hB := (uH hB).frozen 2
   obtain ⟨p0_hN, p1_hN, p2_hN⟩ := (uH hN).box
   have f0_hN := (uH hN).frozen 0
   have f1_hN := (uH hN).frozen 1
   have f2_hN := (uH hN).frozen 2
   have hF := zH (res_fin (k := 28) (t := i) (a := a1) (m := 0) (c := c1) (f := .nil) (B := gb) (w := w) (Nat.le_refl gb) (by omega) (uH hN) ((uH hs1).mono (fun x hx => by have e1 := hx.1; exact ⟨by omega, by omega⟩)) (uH hP) (uH hM))
   go_wp2
   obtain ⟨q1, q2, q3, q4⟩ := uH hF
   obtain ⟨u0, u1, u2⟩ := q1.box
   refine bodyPost_ret (v := .agg #[.int .i64 (28), .int .i64 (i), .slice (a1) (0) (c1)]) (by simp [results, Tryz.results112, go_sem, u0, u1, u2]) rfl ?_
   exact ⟨_, _, _, rfl, (by first | exact q2 | (rw [hgb]; exact q2)), q3, q4⟩
  | true =>
   cases h4 : knd L (i + 1 + 1) 1 with
   | false =>
    simp only [if_true, Bool.false_eq_true, if_false]
    have hP := zH (h.alloc (.cells #[.int .i64 0, .int .i64 0, .slice none 0 0] 24 (0, 0))).1
    have hM := zH (h.alloc (.cells #[.int .i64 0, .int .i64 0, .slice none 0 0] 24 (0, 0))).2
    have hN := zH (nblk_new w 0 0 none 0 0)
    obtain ⟨gb, hgb⟩ : ∃ gb, w.heap.size = gb := ⟨_, rfl⟩
    have hz : (w.alloc (.cells #[.int .i64 0, .int .i64 0, .slice none 0 0] 24 (0, 0))).heap.size = gb + 1 := by simp [hgb]
    have hgl : g < gb := by have := h.lt; omega
    rw [hgb] at hN
    obtain ⟨W1, hq_W1⟩ : ∃ W1, w.alloc (.cells #[.int .i64 0, .int .i64 0, .slice none 0 0] 24 (0, 0)) = W1 := ⟨_, rfl⟩
    rw [hq_W1] at hP hM hN hz
    replace hz := And.intro (Nat.le_of_eq hz) (Nat.le_of_eq hz.symm)
    replace h := zH h
    go_enter Tryz.func112, Tryz.ntmps112
    go_wp2_with fail
    clear hq_W1
    refine (paNamed_yes (uH hP) 28 h1).mono ?_
    rintro e W2 ⟨a1, m1, c1, rfl, hs, h2, hm⟩
    have hzs := hm.size
    have hs1 := zH (hs.mono (P' := fun x => gb < x ∧ x < W2.heap.size) (fun x hx => by have := (uH hN).lt; have e1 := hx.1; have e2 := hx.lt; exact ⟨by omega, by omega⟩))
    clear hs
    replace hN := zH ((uH hN).mop (uH hP) hm)
    have hzz := hm.size
    replace hM := zH ((uH hM).trans hm)
    replace hP := zH h2
    clear hm h2
    dsimp only at hs1 ⊢
    obtain rfl := sl_empty (uH hs1)
    obtain ⟨b1, hq_b1⟩ : ∃ x, W2.heap.size = x := ⟨_, rfl⟩
    have hB := zH (nblk_new W2 28 i a1 0 c1)
    have hm := mop_below (g := g) (below_alloc W2 (.cells #[.int .i64 28, .int .i64 i, .slice a1 0 c1] 24 (0, 0)))
    have h2 := (uH hP).below (below_alloc W2 (.cells #[.int .i64 28, .int .i64 i, .slice a1 0 c1] 24 (0, 0)))
    have hzs : (W2.alloc (.cells #[.int .i64 28, .int .i64 i, .slice a1 0 c1] 24 (0, 0))).heap.size = b1 + 1 := by simp [hq_b1]
    obtain ⟨W3, hq_W3⟩ : ∃ x, W2.alloc (.cells #[.int .i64 28, .int .i64 i, .slice a1 0 c1] 24 (0, 0)) = x := ⟨_, rfl⟩
    rw [hq_W3] at hB hm h2 hzs
    replace hzs := And.intro (Nat.le_of_eq hzs) (Nat.le_of_eq hzs.symm)
    rw [hq_b1] at hB
    replace hq_W3 := zH hq_W3
    replace hN := zH ((uH hN).mop (uH hP) hm)
    replace hs1 := zH ((uH hs1).mop (uH hP) hm)
    have hzz := hm.size
    replace hM := zH ((uH hM).trans hm)
    replace hP := zH h2
    clear hm h2
    go_wp2_with fail
    rw [uH hq_W3]
    clear hq_W3
    refine (paOp_any _ _).mono ?_
    rintro e W4 ⟨rfl, hb⟩
    have h2 := (uH hP).below hb
    have hm := mop_below (g := g) hb
    clear hb
    replace hN := zH ((uH hN).mop (uH hP) hm)
    replace hB := zH ((uH hB).mop (uH hP) hm)
    replace hs1 := zH ((uH hs1).mop (uH hP) hm)
    have hzz := hm.size
    replace hM := zH ((uH hM).trans hm)
    replace hP := zH h2
    clear hm h2
    go_wp2_with fail
    refine (paTake_yes (uH hP) (opT [46]) (by rw [eqB_op]; exact h3) (opA_lt h3)).mono ?_
    rintro e W5 ⟨rfl, h2, hm⟩
    replace hN := zH ((uH hN).mop (uH hP) hm)
    replace hB := zH ((uH hB).mop (uH hP) hm)
    replace hs1 := zH ((uH hs1).mop (uH hP) hm)
    have hzz := hm.size
    replace hM := zH ((uH hM).trans hm)
    replace hP := zH h2
    clear hm h2
    obtain ⟨p0_hB, p1_hB, p2_hB⟩ := (uH hB).box
    have f0_hB := (uH hB).frozen 0
    have f1_hB := (uH hB).frozen 1
    have f2_hB := (uH hB).frozen 2
    obtain ⟨b2, hq_b2⟩ : ∃ x, W5.heap.size = x := ⟨_, rfl⟩
    have hC := zH (nblk_new W5 20 i none 0 0)
    have hm := mop_below (g := g) (below_alloc W5 (.cells #[.int .i64 20, .int .i64 i, .slice none 0 0] 24 (0, 0)))
    have h2 := (uH hP).below (below_alloc W5 (.cells #[.int .i64 20, .int .i64 i, .slice none 0 0] 24 (0, 0)))
    have hzs : (W5.alloc (.cells #[.int .i64 20, .int .i64 i, .slice none 0 0] 24 (0, 0))).heap.size = b2 + 1 := by simp [hq_b2]
    obtain ⟨W6, hq_W6⟩ : ∃ x, W5.alloc (.cells #[.int .i64 20, .int .i64 i, .slice none 0 0] 24 (0, 0)) = x := ⟨_, rfl⟩
    rw [hq_W6] at hC hm h2 hzs
    replace hzs := And.intro (Nat.le_of_eq hzs) (Nat.le_of_eq hzs.symm)
    rw [hq_b2] at hC
    replace hq_W6 := zH hq_W6
    replace hN := zH ((uH hN).mop (uH hP) hm)
    replace hB := zH ((uH hB).mop (uH hP) hm)
    replace hs1 := zH ((uH hs1).mop (uH hP) hm)
    have hzz := hm.size
    replace hM := zH ((uH hM).trans hm)
    replace hP := zH h2
    clear hm h2
    go_wp2_with fail
    rw [uH hq_W6]
    clear hq_W6
    refine (paNamed_no (uH hP) 28 h4).mono ?_
    rintro e W7 hBad
    obtain rfl := hBad.1
    have hG := zH (hBad.pre (uH hM))
    clear hBad
    go_wp2
    exact ⟨rfl, uH hG⟩
   | true =>
    simp only [if_true]
    have hP := zH (h.alloc (.cells #[.int .i64 0, .int .i64 0, .slice none 0 0] 24 (0, 0))).1
    have hM := zH (h.alloc (.cells #[.int .i64 0, .int .i64 0, .slice none 0 0] 24 (0, 0))).2
    have hN := zH (nblk_new w 0 0 none 0 0)
    obtain ⟨gb, hgb⟩ : ∃ gb, w.heap.size = gb := ⟨_, rfl⟩
    have hz : (w.alloc (.cells #[.int .i64 0, .int .i64 0, .slice none 0 0] 24 (0, 0))).heap.size = gb + 1 := by simp [hgb]
    have hgl : g < gb := by have := h.lt; omega
    rw [hgb] at hN
    obtain ⟨W1, hq_W1⟩ : ∃ W1, w.alloc (.cells #[.int .i64 0, .int .i64 0, .slice none 0 0] 24 (0, 0)) = W1 := ⟨_, rfl⟩
    rw [hq_W1] at hP hM hN hz
    replace hz := And.intro (Nat.le_of_eq hz) (Nat.le_of_eq hz.symm)
    replace h := zH h
    go_enter Tryz.func112, Tryz.ntmps112
    go_wp2_with fail
    clear hq_W1
    refine (paNamed_yes (uH hP) 28 h1).mono ?_
    rintro e W2 ⟨a1, m1, c1, rfl, hs, h2, hm⟩
    have hzs := hm.size
    have hs1 := zH (hs.mono (P' := fun x => gb < x ∧ x < W2.heap.size) (fun x hx => by have := (uH hN).lt; have e1 := hx.1; have e2 := hx.lt; exact ⟨by omega, by omega⟩))
    clear hs
    replace hN := zH ((uH hN).mop (uH hP) hm)
    have hzz := hm.size
    replace hM := zH ((uH hM).trans hm)
    replace hP := zH h2
    clear hm h2
    dsimp only at hs1 ⊢
    obtain rfl := sl_empty (uH hs1)
    obtain ⟨b1, hq_b1⟩ : ∃ x, W2.heap.size = x := ⟨_, rfl⟩
    have hB := zH (nblk_new W2 28 i a1 0 c1)
    have hm := mop_below (g := g) (below_alloc W2 (.cells #[.int .i64 28, .int .i64 i, .slice a1 0 c1] 24 (0, 0)))
    have h2 := (uH hP).below (below_alloc W2 (.cells #[.int .i64 28, .int .i64 i, .slice a1 0 c1] 24 (0, 0)))
    have hzs : (W2.alloc (.cells #[.int .i64 28, .int .i64 i, .slice a1 0 c1] 24 (0, 0))).heap.size = b1 + 1 := by simp [hq_b1]
    obtain ⟨W3, hq_W3⟩ : ∃ x, W2.alloc (.cells #[.int .i64 28, .int .i64 i, .slice a1 0 c1] 24 (0, 0)) = x := ⟨_, rfl⟩
    rw [hq_W3] at hB hm h2 hzs
    replace hzs := And.intro (Nat.le_of_eq hzs) (Nat.le_of_eq hzs.symm)
    rw [hq_b1] at hB
    replace hq_W3 := zH hq_W3
    replace hN := zH ((uH hN).mop (uH hP) hm)
    replace hs1 := zH ((uH hs1).mop (uH hP) hm)
    have hzz := hm.size
    replace hM := zH ((uH hM).trans hm)
    replace hP := zH h2
    clear hm h2
    go_wp2_with fail
    rw [uH hq_W3]
    clear hq_W3
    refine (paOp_any _ _).mono ?_
    rintro e W4 ⟨rfl, hb⟩
    have h2 := (uH hP).below hb
    have hm := mop_below (g := g) hb
    clear hb
    replace hN := zH ((uH hN).mop (uH hP) hm)
    replace hB := zH ((uH hB).mop (uH hP) hm)
    replace hs1 := zH ((uH hs1).mop (uH hP) hm)
    have hzz := hm.size
    replace hM := zH ((uH hM).trans hm)
    replace hP := zH h2
    clear hm h2
    go_wp2_with fail
    refine (paTake_yes (uH hP) (opT [46]) (by rw [eqB_op]; exact h3) (opA_lt h3)).mono ?_
    rintro e W5 ⟨rfl, h2, hm⟩
    replace hN := zH ((uH hN).mop (uH hP) hm)
    replace hB := zH ((uH hB).mop (uH hP) hm)
    replace hs1 := zH ((uH hs1).mop (uH hP) hm)
    have hzz := hm.size
    replace hM := zH ((uH hM).trans hm)
    replace hP := zH h2
    clear hm h2
    obtain ⟨p0_hB, p1_hB, p2_hB⟩ := (uH hB).box
    have f0_hB := (uH hB).frozen 0
    have f1_hB := (uH hB).frozen 1
    have f2_hB := (uH hB).frozen 2
    obtain ⟨b2, hq_b2⟩ : ∃ x, W5.heap.size = x := ⟨_, rfl⟩
    have hC := zH (nblk_new W5 20 i none 0 0)
    have hm := mop_below (g := g) (below_alloc W5 (.cells #[.int .i64 20, .int .i64 i, .slice none 0 0] 24 (0, 0)))
    have h2 := (uH hP).below (below_alloc W5 (.cells #[.int .i64 20, .int .i64 i, .slice none 0 0] 24 (0, 0)))
    have hzs : (W5.alloc (.cells #[.int .i64 20, .int .i64 i, .slice none 0 0] 24 (0, 0))).heap.size = b2 + 1 := by simp [hq_b2]
    obtain ⟨W6, hq_W6⟩ : ∃ x, W5.alloc (.cells #[.int .i64 20, .int .i64 i, .slice none 0 0] 24 (0, 0)) = x := ⟨_, rfl⟩
    rw [hq_W6] at hC hm h2 hzs
    replace hzs := And.intro (Nat.le_of_eq hzs) (Nat.le_of_eq hzs.symm)
    rw [hq_b2] at hC
    replace hq_W6 := zH hq_W6
    replace hN := zH ((uH hN).mop (uH hP) hm)
    replace hB := zH ((uH hB).mop (uH hP) hm)
    replace hs1 := zH ((uH hs1).mop (uH hP) hm)
    have hzz := hm.size
    replace hM := zH ((uH hM).trans hm)
    replace hP := zH h2
    clear hm h2
    go_wp2_with fail
    rw [uH hq_W6]
    clear hq_W6
    refine (paNamed_yes (uH hP) 28 h4).mono ?_
    rintro e W7 ⟨a2, m2, c2, rfl, hs, h2, hm⟩
    have hzs := hm.size
    have hs2 := zH (hs.mono (P' := fun x => gb < x ∧ x < W7.heap.size ∧ x ≠ b1 ∧ x ≠ b2) (fun x hx => by have := (uH hN).lt; have := (uH hB).lt; have := (uH hC).lt; have e1 := hx.1; have e2 := hx.lt; exact ⟨by omega, by omega, by omega, by omega⟩))
    clear hs
    replace hN := zH ((uH hN).mop (uH hP) hm)
    replace hB := zH ((uH hB).mop (uH hP) hm)
    replace hC := zH ((uH hC).mop (uH hP) hm)
    replace hs1 := zH ((uH hs1).mop (uH hP) hm)
    have hzz := hm.size
    replace hM := zH ((uH hM).trans hm)
    replace hP := zH h2
    clear hm h2
    dsimp only at hs2 ⊢
    obtain rfl := sl_empty (uH hs2)
    obtain ⟨p0_hB, p1_hB, p2_hB⟩ := (uH hB).box
    have f0_hB := (uH hB).frozen 0
    have f1_hB := (uH hB).frozen 1
    have f2_hB := (uH hB).frozen 2
    obtain ⟨h2, hM2, hB2, hh⟩ := box_set (uH hP) (uH hM) (uH hB) (by omega) 28 ((i : Int) + 1 + 1) a2 0 c2
    have hzz : (((W7.setCell ⟨b1, 0, none⟩ (.int .i64 28)).setCell ⟨b1, 1, none⟩ (.int .i64 ((i : Int) + 1 + 1))).setCell ⟨b1, 2, none⟩ (.slice a2 0 c2)).heap.size = W7.heap.size := by simp
    obtain ⟨W8, hq_W8⟩ : ∃ x, ((W7.setCell ⟨b1, 0, none⟩ (.int .i64 28)).setCell ⟨b1, 1, none⟩ (.int .i64 ((i : Int) + 1 + 1))).setCell ⟨b1, 2, none⟩ (.slice a2 0 c2) = x := ⟨_, rfl⟩
    rw [hq_W8] at h2 hM2 hB2 hh hzz
    replace hzz := And.intro (Nat.le_of_eq hzz) (Nat.le_of_eq hzz.symm)
    replace hN := zH ((uH hN).same (hh _ (by omega)))
    replace hC := zH ((uH hC).same (hh _ (by omega)))
    replace hs1 := zH ((uH hs1).keep (w' := W8) (fun x hx => hh x (by have e1 := hx.1; omega)))
    replace hs2 := zH ((uH hs2).keep (w' := W8) (fun x hx => hh x (by have e1 := hx.1; omega)))
    replace hB := zH hB2
    replace hM := zH hM2
    replace hP := zH h2
    clear hB2 hM2 h2 hh
    obtain ⟨p0_hC, p1_hC, p2_hC⟩ := (uH hC).box
    have f0_hC := (uH hC).frozen 0
    have f1_hC := (uH hC).frozen 1
    have f2_hC := (uH hC).frozen 2
    obtain ⟨p0_hB, p1_hB, p2_hB⟩ := (uH hB).box
    have f0_hB := (uH hB).frozen 0
    have f1_hB := (uH hB).frozen 1
    have f2_hB := (uH hB).frozen 2
    obtain ⟨b3, hq_b3⟩ : ∃ x, W8.heap.size = x := ⟨_, rfl⟩
    have hzz : (W8.alloc (.cells #[.int .i64 20, .int .i64 i, .slice none 0 0] 24 (0, 0))).heap.size = b3 + 1 := by simp [hq_b3]
    have hm := mop_below (g := g) (below_alloc W8 (.cells #[.int .i64 20, .int .i64 i, .slice none 0 0] 24 (0, 0)))
    have h2 := (uH hP).below (below_alloc W8 (.cells #[.int .i64 20, .int .i64 i, .slice none 0 0] 24 (0, 0)))
    have hs3 := lit1_sl (P := fun x => gb < x ∧ x < b3 + 1 ∧ x ≠ b1 ∧ x ≠ b2) W8 20 i none 0 0 .nil (sl_nil _ none 0 (Nat.zero_le _) (fun _ => rfl)) ⟨by omega, by omega, (by have := (uH hN).lt; have := (uH hB).lt; have := (uH hC).lt; omega), (by have := (uH hN).lt; have := (uH hB).lt; have := (uH hC).lt; omega)⟩
    rw [hq_b3] at hs3
    obtain ⟨W9, hq_W9⟩ : ∃ x, W8.alloc (.cells #[.int .i64 20, .int .i64 i, .slice none 0 0] 24 (0, 0)) = x := ⟨_, rfl⟩
    rw [hq_W9] at hs3 hm h2 hzz
    rw [← hzz] at hs3
    replace hzz := And.intro (Nat.le_of_eq hzz) (Nat.le_of_eq hzz.symm)
    replace hs3 := zH hs3
    replace hN := zH ((uH hN).mop (uH hP) hm)
    replace hB := zH ((uH hB).mop (uH hP) hm)
    replace hC := zH ((uH hC).mop (uH hP) hm)
    replace hs1 := zH ((uH hs1).mop (uH hP) hm)
    replace hs2 := zH ((uH hs2).mop (uH hP) hm)
    have hzz := hm.size
    replace hM := zH ((uH hM).trans hm)
    replace hP := zH h2
    clear hm h2
    obtain ⟨p0_hB, p1_hB, p2_hB⟩ := (uH hB).box
    have f0_hB := (uH hB).frozen 0
    have f1_hB := (uH hB).frozen 1
    have f2_hB := (uH hB).frozen 2
    obtain ⟨h2, hM2, hB2, hh⟩ := kid_set (uH hP) (uH hM) (uH hB) (by omega) (some ⟨b3, 0, none⟩) 1 1
    have hzz : (W9.setCell ⟨b1, 2, none⟩ (.slice (some ⟨b3, 0, none⟩) 1 1)).heap.size = W9.heap.size := by simp
    obtain ⟨W10, hq_W10⟩ : ∃ x, W9.setCell ⟨b1, 2, none⟩ (.slice (some ⟨b3, 0, none⟩) 1 1) = x := ⟨_, rfl⟩
    rw [hq_W10] at h2 hM2 hB2 hh hzz
    replace hzz := And.intro (Nat.le_of_eq hzz) (Nat.le_of_eq hzz.symm)
    replace hN := zH ((uH hN).same (hh _ (by omega)))
    replace hC := zH ((uH hC).same (hh _ (by omega)))
    replace hs1 := zH ((uH hs1).keep (w' := W10) (fun x hx => hh x (by have e1 := hx.1; omega)))
    replace hs2 := zH ((uH hs2).keep (w' := W10) (fun x hx => hh x (by have e1 := hx.1; omega)))
    replace hs3 := zH ((uH hs3).keep (w' := W10) (fun x hx => hh x (by have e1 := hx.1; omega)))
    replace hB := zH hB2
    replace hM := zH hM2
    replace hP := zH h2
    clear hB2 hM2 h2 hh
    obtain ⟨p0_hB, p1_hB, p2_hB⟩ := (uH hB).box
    have f0_hB := (uH hB).frozen 0
    have f1_hB := (uH hB).frozen 1
    have f2_hB := (uH hB).frozen 2
    obtain ⟨p0_hN, p1_hN, p2_hN⟩ := (uH hN).box
    have f0_hN := (uH hN).frozen 0
    have f1_hN := (uH hN).frozen 1
    have f2_hN := (uH hN).frozen 2
    have hF := zH (res_fin (k := 28) (t := ((i : Int) + 1 + 1)) (a := some ⟨b3, 0, none⟩) (m := 1) (c := 1) (f := .cons 20 i .nil .nil) (B := gb) (w := w) (Nat.le_refl gb) (by omega) (uH hN) ((uH hs3).mono (fun x hx => by have e1 := hx.1; exact ⟨by omega, by omega⟩)) (uH hP) (uH hM))
    go_wp2
    trace_state
    obtain ⟨q1, q2, q3, q4⟩ := uH hF
    obtain ⟨u0, u1, u2⟩ := q1.box
    refine bodyPost_ret (v := .agg #[.int .i64 (28), .int .i64 (((i : Int) + 1 + 1)), .slice (some ⟨b3, 0, none⟩) (1) (1)]) (by simp [results, Tryz.results112, go_sem, u0, u1, u2]) rfl ?_
    exact ⟨_, _, _, rfl, (by first | exact q2 | (rw [hgb]; exact q2)), q3, q4⟩
end Go.Proofs.YtiknnobgoamgcaaGreatDoor
/-
  The parser: a name and its type; the rank of what comes.
-/
namespace Go.Proofs.YtiknnobgoamgcaaGreatDoor
open Go.RowKit Go.Lib Go.Sort
set_option linter.unusedSimpArgs false
set_option linter.unusedVariables false
set_option maxHeartbeats 4000000 in
set_option maxRecDepth 100000 in
theorem paTyped_any {g : Nat} {tv : Value} {L : List Tk} {i d : Nat} {w : World} (h : PaW g tv L i d w) (kind : Int) : Calls Tryz.prog 103 #[.pointer (some ⟨g, 0, none⟩), .int .i64 kind] w fun e w' => ResN w.heap.size g tv L d w (typedA L kind i) e w' := by
 unfold typedA
 cases h1 : knd L i 1 with
 | false =>
  simp only [leafA, h1, PR.bind]
  have hP := zH (h.alloc (.cells #[.int .i64 0, .int .i64 0, .slice none 0 0] 24 (0, 0))).1
  have hM := zH (h.alloc (.cells #[.int .i64 0, .int .i64 0, .slice none 0 0] 24 (0, 0))).2
  have hN := zH (nblk_new w 0 0 none 0 0)
  obtain ⟨gb, hgb⟩ : ∃ gb, w.heap.size = gb := ⟨_, rfl⟩
  have hz : (w.alloc (.cells #[.int .i64 0, .int .i64 0, .slice none 0 0] 24 (0, 0))).heap.size = gb + 1 := by simp [hgb]
  have hgl : g < gb := by have := h.lt; omega
  rw [hgb] at hN
  obtain ⟨W1, hq_W1⟩ : ∃ W1, w.alloc (.cells #[.int .i64 0, .int .i64 0, .slice none 0 0] 24 (0, 0)) = W1 := ⟨_, rfl⟩
  rw [hq_W1] at hP hM hN hz
  replace hz := And.intro (Nat.le_of_eq hz) (Nat.le_of_eq hz.symm)
  replace h := zH h
  go_enter Tryz.func103, Tryz.ntmps103
  go_wp2_with fail
  clear hq_W1
  refine (paNamed_no (uH hP) kind h1).mono ?_
  rintro e W2 hBad
  obtain rfl := hBad.1
  have hG := zH (hBad.pre (uH hM))
  clear hBad
  go_wp2
  exact ⟨rfl, uH hG⟩
 | true =>
  simp only [leafA, h1, PR.bind, if_true]
  cases h3 : typA L (i + 1) with
  | out => exfalso; revert h3; unfold typA leafA; cases knd L (i + 1) 1 <;> simp [PR.bind]; cases opA L (i + 1 + 1) [46] <;> simp; cases knd L (i + 1 + 1 + 1) 1 <;> simp
  | bad j =>
   dsimp only
   have hP := zH (h.alloc (.cells #[.int .i64 0, .int .i64 0, .slice none 0 0] 24 (0, 0))).1
   have hM := zH (h.alloc (.cells #[.int .i64 0, .int .i64 0, .slice none 0 0] 24 (0, 0))).2
   have hN := zH (nblk_new w 0 0 none 0 0)
   obtain ⟨gb, hgb⟩ : ∃ gb, w.heap.size = gb := ⟨_, rfl⟩
   have hz : (w.alloc (.cells #[.int .i64 0, .int .i64 0, .slice none 0 0] 24 (0, 0))).heap.size = gb + 1 := by simp [hgb]
   have hgl : g < gb := by have := h.lt; omega
   rw [hgb] at hN
   obtain ⟨W1, hq_W1⟩ : ∃ W1, w.alloc (.cells #[.int .i64 0, .int .i64 0, .slice none 0 0] 24 (0, 0)) = W1 := ⟨_, rfl⟩
   rw [hq_W1] at hP hM hN hz
   replace hz := And.intro (Nat.le_of_eq hz) (Nat.le_of_eq hz.symm)
   replace h := zH h
   go_enter Tryz.func103, Tryz.ntmps103
   go_wp2_with fail
   clear hq_W1
   refine (paNamed_yes (uH hP) kind h1).mono ?_
   rintro e W2 ⟨a1, m1, c1, rfl, hs, h2, hm⟩
   have hzs := hm.size
   have hs1 := zH (hs.mono (P' := fun x => gb < x ∧ x < W2.heap.size) (fun x hx => by have := (uH hN).lt; have e1 := hx.1; have e2 := hx.lt; exact ⟨by omega, by omega⟩))
   clear hs
   replace hN := zH ((uH hN).mop (uH hP) hm)
   have hzz := hm.size
   replace hM := zH ((uH hM).trans hm)
   replace hP := zH h2
   clear hm h2
   dsimp only at hs1 ⊢
   obtain rfl := sl_empty (uH hs1)
   obtain ⟨b1, hq_b1⟩ : ∃ x, W2.heap.size = x := ⟨_, rfl⟩
   have hB := zH (nblk_new W2 kind i a1 0 c1)
   have hm := mop_below (g := g) (below_alloc W2 (.cells #[.int .i64 kind, .int .i64 i, .slice a1 0 c1] 24 (0, 0)))
   have h2 := (uH hP).below (below_alloc W2 (.cells #[.int .i64 kind, .int .i64 i, .slice a1 0 c1] 24 (0, 0)))
   have hzs : (W2.alloc (.cells #[.int .i64 kind, .int .i64 i, .slice a1 0 c1] 24 (0, 0))).heap.size = b1 + 1 := by simp [hq_b1]
   obtain ⟨W3, hq_W3⟩ : ∃ x, W2.alloc (.cells #[.int .i64 kind, .int .i64 i, .slice a1 0 c1] 24 (0, 0)) = x := ⟨_, rfl⟩
   rw [hq_W3] at hB hm h2 hzs
   replace hzs := And.intro (Nat.le_of_eq hzs) (Nat.le_of_eq hzs.symm)
   rw [hq_b1] at hB
   replace hq_W3 := zH hq_W3
   replace hN := zH ((uH hN).mop (uH hP) hm)
   replace hs1 := zH ((uH hs1).mop (uH hP) hm)
   have hzz := hm.size
   replace hM := zH ((uH hM).trans hm)
   replace hP := zH h2
   clear hm h2
   go_wp2_with fail
   rw [uH hq_W3]
   clear hq_W3
   have hC := paTypeName_any (uH hP)
   rw [h3] at hC
   refine (hC).mono ?_
   rintro e W4 hBad
   obtain rfl := hBad.1
   have hG := zH (hBad.pre (uH hM))
   clear hBad
   go_wp2
   exact ⟨rfl, uH hG⟩
  | ok n j =>
   dsimp only [one]
   have hP := zH (h.alloc (.cells #[.int .i64 0, .int .i64 0, .slice none 0 0] 24 (0, 0))).1
   have hM := zH (h.alloc (.cells #[.int .i64 0, .int .i64 0, .slice none 0 0] 24 (0, 0))).2
   have hN := zH (nblk_new w 0 0 none 0 0)
   obtain ⟨gb, hgb⟩ : ∃ gb, w.heap.size = gb := ⟨_, rfl⟩
   have hz : (w.alloc (.cells #[.int .i64 0, .int .i64 0, .slice none 0 0] 24 (0, 0))).heap.size = gb + 1 := by simp [hgb]
   have hgl : g < gb := by have := h.lt; omega
   rw [hgb] at hN
   obtain ⟨W1, hq_W1⟩ : ∃ W1, w.alloc (.cells #[.int .i64 0, .int .i64 0, .slice none 0 0] 24 (0, 0)) = W1 := ⟨_, rfl⟩
   rw [hq_W1] at hP hM hN hz
   replace hz := And.intro (Nat.le_of_eq hz) (Nat.le_of_eq hz.symm)
   replace h := zH h
   go_enter Tryz.func103, Tryz.ntmps103
   go_wp2_with fail
   clear hq_W1
   refine (paNamed_yes (uH hP) kind h1).mono ?_
   rintro e W2 ⟨a1, m1, c1, rfl, hs, h2, hm⟩
   have hzs := hm.size
   have hs1 := zH (hs.mono (P' := fun x => gb < x ∧ x < W2.heap.size) (fun x hx => by have := (uH hN).lt; have e1 := hx.1; have e2 := hx.lt; exact ⟨by omega, by omega⟩))
   clear hs
   replace hN := zH ((uH hN).mop (uH hP) hm)
   have hzz := hm.size
   replace hM := zH ((uH hM).trans hm)
   replace hP := zH h2
   clear hm h2
   dsimp only at hs1 ⊢
   obtain rfl := sl_empty (uH hs1)
   obtain ⟨b1, hq_b1⟩ : ∃ x, W2.heap.size = x := ⟨_, rfl⟩
   have hB := zH (nblk_new W2 kind i a1 0 c1)
   have hm := mop_below (g := g) (below_alloc W2 (.cells #[.int .i64 kind, .int .i64 i, .slice a1 0 c1] 24 (0, 0)))
   have h2 := (uH hP).below (below_alloc W2 (.cells #[.int .i64 kind, .int .i64 i, .slice a1 0 c1] 24 (0, 0)))
   have hzs : (W2.alloc (.cells #[.int .i64 kind, .int .i64 i, .slice a1 0 c1] 24 (0, 0))).heap.size = b1 + 1 := by simp [hq_b1]
   obtain ⟨W3, hq_W3⟩ : ∃ x, W2.alloc (.cells #[.int .i64 kind, .int .i64 i, .slice a1 0 c1] 24 (0, 0)) = x := ⟨_, rfl⟩
   rw [hq_W3] at hB hm h2 hzs
   replace hzs := And.intro (Nat.le_of_eq hzs) (Nat.le_of_eq hzs.symm)
   rw [hq_b1] at hB
   replace hq_W3 := zH hq_W3
   replace hN := zH ((uH hN).mop (uH hP) hm)
   replace hs1 := zH ((uH hs1).mop (uH hP) hm)
   have hzz := hm.size
   replace hM := zH ((uH hM).trans hm)
   replace hP := zH h2
   clear hm h2
   go_wp2_with fail
   rw [uH hq_W3]
   clear hq_W3
   have hC := paTypeName_any (uH hP)
   rw [h3] at hC
   refine (hC).mono ?_
   rintro e W4 ⟨a2, m2, c2, rfl, hs, h2, hm⟩
   have hzs := hm.size
   have hs2 := zH (hs.mono (P' := fun x => gb < x ∧ x < W4.heap.size ∧ x ≠ b1) (fun x hx => by have := (uH hN).lt; have := (uH hB).lt; have e1 := hx.1; have e2 := hx.lt; exact ⟨by omega, by omega, by omega⟩))
   clear hs
   replace hN := zH ((uH hN).mop (uH hP) hm)
   replace hB := zH ((uH hB).mop (uH hP) hm)
   replace hs1 := zH ((uH hs1).mop (uH hP) hm)
   have hzz := hm.size
   replace hM := zH ((uH hM).trans hm)
   replace hP := zH h2
   clear hm h2
   obtain ⟨nk, nt, nc⟩ := n
   dsimp only at hs2 ⊢
   obtain ⟨b3, hq_b3⟩ : ∃ x, W4.heap.size = x := ⟨_, rfl⟩
   have hzz : (W4.alloc (.cells #[.int .i64 nk, .int .i64 nt, .slice a2 m2 c2] 24 (0, 0))).heap.size = b3 + 1 := by simp [hq_b3]
   have hm := mop_below (g := g) (below_alloc W4 (.cells #[.int .i64 nk, .int .i64 nt, .slice a2 m2 c2] 24 (0, 0)))
   have h2 := (uH hP).below (below_alloc W4 (.cells #[.int .i64 nk, .int .i64 nt, .slice a2 m2 c2] 24 (0, 0)))
   have hs3 := lit1_sl (P := fun x => gb < x ∧ x < b3 + 1 ∧ x ≠ b1) W4 nk nt a2 m2 c2 nc ((uH hs2).mono (fun x hx => by have e1 := hx.1; have e2 := hx.lt; exact ⟨by omega, by omega, by omega⟩)) ⟨by omega, by omega, (by have := (uH hN).lt; have := (uH hB).lt; omega)⟩
   rw [hq_b3] at hs3
   obtain ⟨W5, hq_W5⟩ : ∃ x, W4.alloc (.cells #[.int .i64 nk, .int .i64 nt, .slice a2 m2 c2] 24 (0, 0)) = x := ⟨_, rfl⟩
   rw [hq_W5] at hs3 hm h2 hzz
   rw [← hzz] at hs3
   replace hzz := And.intro (Nat.le_of_eq hzz) (Nat.le_of_eq hzz.symm)
   replace hs3 := zH hs3
   replace hN := zH ((uH hN).mop (uH hP) hm)
   replace hB := zH ((uH hB).mop (uH hP) hm)
   replace hs1 := zH ((uH hs1).mop (uH hP) hm)
   have hzz := hm.size
   replace hM := zH ((uH hM).trans hm)
   replace hP := zH h2
   clear hm h2
   obtain ⟨p0_hB, p1_hB, p2_hB⟩ := (uH hB).box
   have f0_hB := (uH hB).frozen 0
   have f1_hB := (uH hB).frozen 1
   have f2_hB := (uH hB).frozen 2
   obtain ⟨h2, hM2, hB2, hh⟩ := kid_set (uH hP) (uH hM) (uH hB) (by omega) (some ⟨b3, 0, none⟩) 1 1
   have hzz : (W5.setCell ⟨b1, 2, none⟩ (.slice (some ⟨b3, 0, none⟩) 1 1)).heap.size = W5.heap.size := by simp
   obtain ⟨W6, hq_W6⟩ : ∃ x, W5.setCell ⟨b1, 2, none⟩ (.slice (some ⟨b3, 0, none⟩) 1 1) = x := ⟨_, rfl⟩
   rw [hq_W6] at h2 hM2 hB2 hh hzz
   replace hzz := And.intro (Nat.le_of_eq hzz) (Nat.le_of_eq hzz.symm)
   replace hN := zH ((uH hN).same (hh _ (by omega)))
   replace hs1 := zH ((uH hs1).keep (w' := W6) (fun x hx => hh x (by have e1 := hx.1; omega)))
   replace hs3 := zH ((uH hs3).keep (w' := W6) (fun x hx => hh x (by have e1 := hx.1; omega)))
   replace hB := zH hB2
   replace hM := zH hM2
   replace hP := zH h2
   clear hB2 hM2 h2 hh
   obtain ⟨p0_hB, p1_hB, p2_hB⟩ := (uH hB).box
   have f0_hB := (uH hB).frozen 0
   have f1_hB := (uH hB).frozen 1
   have f2_hB := (uH hB).frozen 2
   obtain ⟨p0_hN, p1_hN, p2_hN⟩ := (uH hN).box
   have f0_hN := (uH hN).frozen 0
   have f1_hN := (uH hN).frozen 1
   have f2_hN := (uH hN).frozen 2
   have hF := zH (res_fin (k := kind) (t := i) (a := some ⟨b3, 0, none⟩) (m := 1) (c := 1) (f := .cons nk nt nc .nil) (B := gb) (w := w) (Nat.le_refl gb) (by omega) (uH hN) ((uH hs3).mono (fun x hx => by have e1 := hx.1; exact ⟨by omega, by omega⟩)) (uH hP) (uH hM))
   go_wp2
   obtain ⟨q1, q2, q3, q4⟩ := uH hF
   obtain ⟨u0, u1, u2⟩ := q1.box
   refine bodyPost_ret (v := .agg #[.int .i64 (kind), .int .i64 (i), .slice (some ⟨b3, 0, none⟩) (1) (1)]) (by simp [results, Tryz.results103, go_sem, u0, u1, u2]) rfl ?_
   exact ⟨_, _, _, rfl, (by first | exact q2 | (rw [hgb]; exact q2)), q3, q4⟩
set_option maxHeartbeats 4000000 in
set_option maxRecDepth 100000 in
theorem paRank_any {g : Nat} {tv : Value} {L : List Tk} {i d : Nat} {w : World} (h : PaW g tv L i d w) : Calls Tryz.prog 138 #[.pointer (some ⟨g, 0, none⟩)] w fun e w' => e = .returned (.int .i64 (rkA L i)) ∧ Below w.heap.size w w' := by
 have hK := zH (paIsKind_any h 4)
 unfold rkA
 cases h1 : knd L i 4 with
 | false =>
  rw [h1] at hK
  simp only [Bool.false_eq_true, if_false]
  replace h := zH h
  go_enter Tryz.func138, Tryz.ntmps138
  go_wp2_with fail
  refine (uH hK).mono ?_
  rintro e W1 ⟨rfl, hb⟩
  clear hK
  replace hb := zH hb
  go_wp2
  go_ret
  exact ⟨rfl, uH hb⟩
 | true =>
  rw [h1] at hK
  simp only [if_true]
  have hP2 := zH (fun W (hW : Below w.heap.size w W) => paPeek_any (h.below hW))
  replace h := zH h
  have hfl := run_field_tok1
  unfold Tk.val at hP2
  generalize tkA L i = t at *
  go_enter Tryz.func138, Tryz.ntmps138
  go_wp2_with fail
  refine (uH hK).mono ?_
  rintro e W1 ⟨rfl, hb⟩
  clear hK
  replace hb := zH hb
  go_wp2_with fail
  refine (uH hP2 _ (uH hb)).mono ?_
  rintro e W2 ⟨rfl, hb2⟩
  have hb3 := zH (below3 (uH hb) hb2)
  clear hb hb2 hP2
  go_wp2_with fail
  refine (tRank_any t.s W2).mono ?_
  rintro e W3 ⟨rfl, rfl⟩
  go_wp2
  go_ret
  exact ⟨rfl, uH hb3⟩
end Go.Proofs.YtiknnobgoamgcaaGreatDoor
