/-
  The program's clone.
-/
import Derived.Test.YthnapcdanccohaaDoorNdOwn
import Derived.Deep.DeepCutAuto
import Derived.Deep.RegionHeld
namespace Go.Proofs.YthnapcdanccohaaDoor
open Go.RowKit Go.Lib Go.Sort
set_option linter.unusedSimpArgs false
set_option linter.unusedVariables false
/-- How long it may last. -/
def nu : List F → Nat
  | [] => 0
  | f :: fs => f.size + 1 + nu fs
theorem nu_len : ∀ fs : List F, fs.length ≤ nu fs
  | [] => Nat.le_refl _
  | f :: fs => by have := nu_len fs; simp only [nu, List.length_cons]; omega
/-- A pile of slices whose rows may be written. -/
def StkF (P : Nat → Prop) (w : World) (base : Nat) : List Value → List F → Prop
  | [], [] => True
  | v :: vs, f :: fs => (∃ a n cap, v = .slice a n cap ∧ SlQ P w a n cap f ∧ Fresh w base a n) ∧ StkF P w base vs fs
  | _, _ => False
theorem StkF.len {P : Nat → Prop} {w : World} {base : Nat} : ∀ {vs : List Value} {fs : List F}, StkF P w base vs fs → vs.length = fs.length
  | [], [], _ => rfl
  | v :: vs, f :: fs, h => by simp only [List.length_cons]; rw [StkF.len h.2]
  | [], _ :: _, h => h.elim
  | _ :: _, [], h => h.elim
theorem StkF.keep {P : Nat → Prop} {w w' : World} {base : Nat} (hk : KeepN w w') : ∀ {vs : List Value} {fs : List F}, StkF P w base vs fs → StkF P w' base vs fs
  | [], [], _ => trivial
  | v :: vs, f :: fs, ⟨⟨a, n, cap, e, h1, h2⟩, h3⟩ => ⟨⟨a, n, cap, e, h1.keep (fun g hg => hk g ⟨trivial, hg.2⟩), h2.below hk⟩, StkF.keep hk h3⟩
  | [], _ :: _, h => h.elim
  | _ :: _, [], h => h.elim
theorem Fresh.set {w : World} {base p q : Nat} {a : Option Addr} {n : Nat} {v : Value} (h : Fresh w base a n) : Fresh (w.setCell ⟨p, q, none⟩ v) base a n := fun h0 => by
  obtain ⟨g, cur, e, hb, hg⟩ := h h0
  by_cases hp : g = p
  · subst hp
    exact ⟨g, _, e, hb, Joins.block_setCell (i := q) hg v⟩
  · exact ⟨g, cur, e, hb, by rw [Below.heap_setCell _ _ _ g hp]; exact hg⟩
theorem StkF.swap {P : Nat → Prop} {w : World} {base p q : Nat} {a a' : Option Addr} {n n' cap cap' : Nat} {c1 : F} (hp : w.cell? ⟨p, q, none⟩ = some (.slice a n cap)) (h : SlQ P w a n cap c1) (h' : SlQ P w a' n' cap' c1) :
    ∀ {vs : List Value} {fs : List F}, StkF P w base vs fs → StkF P (w.setCell ⟨p, q, none⟩ (.slice a' n' cap')) base vs fs
  | [], [], _ => trivial
  | v :: vs, f :: fs, ⟨⟨b, m, cb, e, h1, h2⟩, h3⟩ => ⟨⟨b, m, cb, e, h1.swap hp h h', h2.set⟩, StkF.swap hp h h' h3⟩
  | [], _ :: _, h => h.elim
  | _ :: _, [], h => h.elim
theorem BoxN.keep {w w' : World} {g : Nat} {k t : Int} {a : Option Addr} {n cap : Nat} (h : BoxN w g k t a n cap) (hk : ∀ o, w'.cell? ⟨g, o, none⟩ = w.cell? ⟨g, o, none⟩) : BoxN w' g k t a n cap :=
  ⟨by rw [hk]; exact h.1, by rw [hk]; exact h.2.1, by rw [hk]; exact h.2.2⟩
def NBlk (w : World) (g : Nat) (k t : Int) (a : Option Addr) (n cap : Nat) : Prop := w.heap[g]? = some (.cells #[.int .i64 k, .int .i64 t, .slice a n cap] 26 (0, 0))
theorem NBlk.lt {w : World} {g : Nat} {k t : Int} {a : Option Addr} {n cap : Nat} (h : NBlk w g k t a n cap) : g < w.heap.size := (Array.getElem?_eq_some_iff.1 h).1
theorem NBlk.box {w : World} {g : Nat} {k t : Int} {a : Option Addr} {n cap : Nat} (h : NBlk w g k t a n cap) : BoxN w g k t a n cap :=
  ⟨by rw [cell_of_row w g 0 _ _ _ h]; rfl, by rw [cell_of_row w g 1 _ _ _ h]; rfl, by rw [cell_of_row w g 2 _ _ _ h]; rfl⟩
theorem NBlk.frozen {w : World} {g : Nat} {k t : Int} {a : Option Addr} {n cap : Nat} (h : NBlk w g k t a n cap) (o : Nat) : w.frozen? ⟨g, o, none⟩ = false := Joins.unfrozen_of_block h o
theorem NBlk.same {w w' : World} {g : Nat} {k t : Int} {a : Option Addr} {n cap : Nat} (h : NBlk w g k t a n cap) (e : w'.heap[g]? = w.heap[g]?) : NBlk w' g k t a n cap := by unfold NBlk; rw [e]; exact h
theorem NBlk.set {w : World} {g : Nat} {k t : Int} {a a' : Option Addr} {n cap n' cap' : Nat} (h : NBlk w g k t a n cap) : NBlk (w.setCell ⟨g, 2, none⟩ (.slice a' n' cap')) g k t a' n' cap' := by
  have := Joins.block_setCell (i := 2) h (.slice a' n' cap')
  exact this
theorem nblk_new (w : World) (k t : Int) (a : Option Addr) (n cap : Nat) : NBlk (w.alloc (.cells #[.int .i64 k, .int .i64 t, .slice a n cap] 26 (0, 0))) w.heap.size k t a n cap := heap_alloc_new w _
theorem Fresh.le {w : World} {b b' : Nat} {a : Option Addr} {n : Nat} (h : Fresh w b a n) (hb : b' ≤ b) : Fresh w b' a n := fun h0 => by
  obtain ⟨g, cur, e, hg, hh⟩ := h h0
  exact ⟨g, cur, e, Nat.le_trans hb hg, hh⟩
theorem Fresh.frozen {w : World} {b g : Nat} {n : Nat} (h : Fresh w b (some ⟨g, 0, none⟩) n) (hn : 0 < n) (o : Nat) : w.frozen? ⟨g, o, none⟩ = false := by
  obtain ⟨g', cur, e, hg, hh⟩ := h hn
  injection e with e
  injection e with e
  subst e
  exact Joins.unfrozen_of_block hh o
set_option maxHeartbeats 8000000 in
set_option maxRecDepth 100000 in
theorem ndClone_any (P : Nat → Prop) (k t : Int) (a : Option Addr) (n cap : Nat) (c : F) (w : World) (h : SlQ P w a n cap c) (hP : ∀ g, w.heap.size + 2 ≤ g → P g) (hN : c.size ≤ 1000000) :
    Calls Tryd.prog 30 #[.agg #[.int .i64 k, .int .i64 t, .slice a n cap]] w fun e w' => ∃ a' cap', e = .returned (.agg #[.int .i64 k, .int .i64 t, .slice a' n cap']) ∧ SlQ P w' a' n cap' c ∧ Below w.heap.size w w' := by
  have hln := c.len_le_size
  have e1 := h.1
  have hb1 := below_alloc w (.cells #[.int .i64 k, .int .i64 t, .slice a n cap] 26 (0, 0))
  have hb2 := below_alloc (w.alloc (.cells #[.int .i64 k, .int .i64 t, .slice a n cap] 26 (0, 0))) (.cells #[.int .i64 0, .int .i64 0, .slice none 0 0] 26 (0, 0))
  have hb := hb1.trans (hb2.mono hb1.size)
  have hx := (nblk_new w k t a n cap).same (w' := (w.alloc (.cells #[.int .i64 k, .int .i64 t, .slice a n cap] 26 (0, 0))).alloc (.cells #[.int .i64 0, .int .i64 0, .slice none 0 0] 26 (0, 0))) (Below.heap_alloc _ _ _ (by simp))
  have hr := nblk_new (w.alloc (.cells #[.int .i64 k, .int .i64 t, .slice a n cap] 26 (0, 0))) 0 0 none 0 0
  rw [show (w.alloc (.cells #[.int .i64 k, .int .i64 t, .slice a n cap] 26 (0, 0))).heap.size = w.heap.size + 1 by simp] at hr
  have hs1 := hide ((h.mono (P' := fun g => (P g ∧ g < w.heap.size) ∨ w.heap.size + 2 ≤ g) (fun g hg => .inl ⟨hg.1, hg.lt⟩)).below hb)
  have hC := hide (cloneN_any (fun g => (P g ∧ g < w.heap.size) ∨ w.heap.size + 2 ≤ g) a n cap c _ (unhide hs1) (fun g hg => .inr (by simp at hg; omega)) (by omega))
  have hsz : ((w.alloc (.cells #[.int .i64 k, .int .i64 t, .slice a n cap] 26 (0, 0))).alloc (.cells #[.int .i64 0, .int .i64 0, .slice none 0 0] 26 (0, 0))).heap.size = w.heap.size + 2 := by simp
  obtain ⟨y0, y1, y2⟩ := hx.box
  replace hx := hide hx
  replace hr := hide hr
  replace h := hide h
  replace hP := hide hP
  replace hb := hide hb
  replace e1 := hide e1
  clear hb1 hb2
  go_enter Tryd.func30, Tryd.ntmps30
  go_wp2_with fail
  refine (unhide hC).mono ?_
  rintro e W2 ⟨a1, cap1, rfl, hs2, hf2, hb2⟩
  clear y0 y1 y2 hC
  generalize (w.alloc (.cells #[.int .i64 k, .int .i64 t, .slice a n cap] 26 (0, 0))).alloc (.cells #[.int .i64 0, .int .i64 0, .slice none 0 0] 26 (0, 0)) = W1 at *
  obtain ⟨gb, hgb⟩ : ∃ gb, w.heap.size = gb := ⟨_, rfl⟩
  rw [hgb] at hx hr hsz hb hs2 ⊢
  rw [hsz] at hf2 hb2
  clear hs1
  have hx2 := (unhide hx).same (hb2.block gb (by omega))
  have hr2 := (unhide hr).same (hb2.block (gb + 1) (by omega))
  have hbx2 := hx2.box
  have hs3 := hs2.keep (keep_set (p := ⟨gb, 2, none⟩) (.slice a1 n cap1) (fun hh => by have := hh.1; dsimp only at this; omega))
  have hf3 : Fresh (W2.setCell ⟨gb, 2, none⟩ (.slice a1 n cap1)) (gb + 2) a1 n := hf2.set
  have hx3 := hx2.set (a' := a1) (n' := n) (cap' := cap1)
  have hr3 := hr2.same (w' := W2.setCell ⟨gb, 2, none⟩ (.slice a1 n cap1)) (Below.heap_setCell _ _ _ _ (by dsimp only; omega))
  have hb3 : RowKit.Below gb w (W2.setCell ⟨gb, 2, none⟩ (.slice a1 n cap1)) := ((unhide hb).trans (hb2.mono (by omega))).setCell (p := ⟨gb, 2, none⟩) (Nat.le_refl _) _
  have hsz3 : gb + 2 ≤ (W2.setCell ⟨gb, 2, none⟩ (.slice a1 n cap1)).heap.size := by have := hb2.size; rw [hsz] at this; simpa using this
  have hbA := below_alloc (W2.setCell ⟨gb, 2, none⟩ (.slice a1 n cap1)) (.cells #[.slice a1 n cap1] 24 (0, 0))
  have hrow4 := rowP_new (W2.setCell ⟨gb, 2, none⟩ (.slice a1 n cap1)) (.slice a1 n cap1)
  have hs4 := hs3.below hbA
  have hf4 := hf3.below (keep_below hbA)
  have hx4 := hx3.same (hbA.block gb (by omega))
  have hr4 := hr3.same (hbA.block (gb + 1) (by omega))
  have hb4 := hb3.alloc (by omega) (.cells #[.slice a1 n cap1] 24 (0, 0))
  have hfz2 := hx2.frozen 2
  obtain ⟨y0, y1, y2⟩ := hbx2
  obtain ⟨z0, z1, z2⟩ := hx3.box
  replace hgb := hide hgb
  replace hs4 := hide hs4
  replace hf4 := hide hf4
  replace hx4 := hide hx4
  replace hr4 := hide hr4
  replace hb4 := hide hb4
  replace hrow4 := hide hrow4
  clear hs2 hf2 hb2 hx2 hr2 hs3 hf3 hx3 hr3 hb3 hbA
  go_upto_region 3 with fail
  generalize hgp : (W2.setCell ⟨gb, 2, none⟩ (.slice a1 n cap1)).heap.size = gp at *
  generalize (W2.setCell ⟨gb, 2, none⟩ (.slice a1 n cap1)).alloc (.cells #[.slice a1 n cap1] 24 (0, 0)) = W4 at *
  have hgp' : W2.heap.size = gp := by simpa using hgp
  rw [hgp']
  clear y0 y1 y2 z0 z1 z2 hfz2 hgp
  replace hgp' := hide hgp'
  have hnu : nu [c] ≤ 1000001 := by simp only [nu]; omega
  go_wp2
  go_loopg [3] (nu [c]) (fun gf s3 wx => ∃ (ts : List Value) (fs : List F) (gp cp m : Nat), s3 = .slice (some ⟨gp, 0, none⟩) m cp ∧ m = fs.length ∧ nu fs ≤ gf ∧ gf ≤ 1000001 ∧ RowP wx gp cp ts.reverse ∧ gb + 2 ≤ gp ∧ StkF (fun g => (P g ∧ g < gb) ∨ gb + 2 ≤ g) wx (gb + 2) ts fs ∧ SlQ (fun g => (P g ∧ g < gb) ∨ gb + 2 ≤ g) wx a1 n cap1 c ∧ NBlk wx gb k t a1 n cap1 ∧ NBlk wx (gb + 1) 0 0 none 0 0 ∧ Below gb w wx)
  case atStart => exact ⟨[.slice a1 n cap1], [c], gp, 1, 1, rfl, rfl, Nat.le_refl _, hnu, unhide hrow4, hsz3, ⟨⟨a1, n, cap1, rfl, unhide hs4, unhide hf4⟩, trivial⟩, unhide hs4, unhide hx4, unhide hr4, unhide hb4⟩
  case round =>
    clear hrow4 hs4 hf4 hx4 hr4 hb4
    obtain ⟨ts, fs, gp, cp, m, rfl, hm, hnuf, hgf, hrow, hgpB, hst, hsl, hx, hr, hbw⟩ := hrel
    cases fs with
    | nil =>
      obtain rfl : m = 0 := hm
      obtain ⟨y0, y1, y2⟩ := hx.box
      obtain ⟨z0, z1, z2⟩ := hr.box
      have f0 := hr.frozen 0
      have f1 := hr.frozen 1
      have f2 := hr.frozen 2
      replace hx := hide hx
      replace hr := hide hr
      have hP1 : ∀ (W : World), ¬ TagQ (fun g => (P g ∧ g < gb) ∨ gb + 2 ≤ g) W (gb + 1) := fun W hh => by have := hh.1; omega
      have hfin : Hid (SlQ (fun g => (P g ∧ g < gb) ∨ gb + 2 ≤ g) (((wr.setCell ⟨gb + 1, 0, none⟩ (.int .i64 k)).setCell ⟨gb + 1, 1, none⟩ (.int .i64 t)).setCell ⟨gb + 1, 2, none⟩ (.slice a1 n cap1)) a1 n cap1 c ∧ RowKit.Below gb w (((wr.setCell ⟨gb + 1, 0, none⟩ (.int .i64 k)).setCell ⟨gb + 1, 1, none⟩ (.int .i64 t)).setCell ⟨gb + 1, 2, none⟩ (.slice a1 n cap1))) := hide
        ⟨((hsl.keep (keep_set (p := ⟨gb + 1, 0, none⟩) _ (hP1 _))).keep (keep_set (p := ⟨gb + 1, 1, none⟩) _ (hP1 _))).keep (keep_set (p := ⟨gb + 1, 2, none⟩) _ (hP1 _)),
          ((hbw.setCell (p := ⟨gb + 1, 0, none⟩) (Nat.le_succ _) _).setCell (p := ⟨gb + 1, 1, none⟩) (Nat.le_succ _) _).setCell (p := ⟨gb + 1, 2, none⟩) (Nat.le_succ _) _⟩
      have hrl : ∀ (v0 v1 v2 : Value), NBlk wr (gb + 1) 0 0 none 0 0 → True := fun _ _ _ _ => trivial
      replace hsl := hide hsl
      replace hbw := hide hbw
      have q0 : (((wr.setCell ⟨gb + 1, 0, none⟩ (.int .i64 k)).setCell ⟨gb + 1, 1, none⟩ (.int .i64 t)).setCell ⟨gb + 1, 2, none⟩ (.slice a1 n cap1)).cell? ⟨gb + 1, 0, none⟩ = some (.int .i64 k) := by
        rw [World.cell?_setCell_other _ _ _ _ (by simp), World.cell?_setCell_other _ _ _ _ (by simp)]
        exact World.cell?_setCell_same _ _ _ (by rw [z0])
      have q1 : (((wr.setCell ⟨gb + 1, 0, none⟩ (.int .i64 k)).setCell ⟨gb + 1, 1, none⟩ (.int .i64 t)).setCell ⟨gb + 1, 2, none⟩ (.slice a1 n cap1)).cell? ⟨gb + 1, 1, none⟩ = some (.int .i64 t) := by
        rw [World.cell?_setCell_other _ _ _ _ (by simp)]
        exact World.cell?_setCell_same _ _ _ (by rw [World.cell?_setCell_other _ _ _ _ (by simp), z1])
      have q2 : (((wr.setCell ⟨gb + 1, 0, none⟩ (.int .i64 k)).setCell ⟨gb + 1, 1, none⟩ (.int .i64 t)).setCell ⟨gb + 1, 2, none⟩ (.slice a1 n cap1)).cell? ⟨gb + 1, 2, none⟩ = some (.slice a1 n cap1) :=
        World.cell?_setCell_same _ _ _ (by rw [World.cell?_setCell_other _ _ _ _ (by simp), World.cell?_setCell_other _ _ _ _ (by simp), z2])
      replace q0 := hide q0
      replace q1 := hide q1
      replace q2 := hide q2
      clear hrow hst hP1 hrl
      go_wp2
      generalize ((wr.setCell ⟨gb + 1, 0, none⟩ (.int .i64 k)).setCell ⟨gb + 1, 1, none⟩ (.int .i64 t)).setCell ⟨gb + 1, 2, none⟩ (.slice a1 n cap1) = W9 at *
      have p0 := unhide q0
      have p1 := unhide q1
      have p2 := unhide q2
      refine bodyPost_ret (v := .agg #[.int .i64 k, .int .i64 t, .slice a1 n cap1]) (by simp [results, Tryd.results30, go_sem, p0, p1, p2]) rfl ⟨a1, cap1, rfl, (unhide hfin).1.mono (fun x hx => by
        rcases hx.1 with h | h
        · exact h.1
        · exact unhide hP x (by rw [unhide hgb]; exact h)), ?_⟩
      rw [unhide hgb]
      exact (unhide hfin).2
    | cons f rest =>
      cases ts with
      | nil => exact hst.elim
      | cons t0 ts =>
        obtain ⟨⟨a2, n2, cap2, rfl, hf1, hfr1⟩, hst'⟩ := hst
        have hlt := hst'.len
        obtain ⟨m', hm'⟩ : ∃ m', rest.length = m' := ⟨_, rfl⟩
        rw [hm'] at hlt
        obtain rfl : m = m' + 1 := by rw [hm, List.length_cons, hm']
        clear hm
        have hroom := hrow.room
        rw [List.length_reverse, List.length_cons, hlt] at hroom
        unfold maxLen at hroom
        have hmlen := nu_len (f :: rest)
        rw [List.length_cons, hm'] at hmlen
        have hnuf' : f.size + nu rest + 1 ≤ gk := by simp only [nu] at hnuf; omega
        have hlastz : IntKind.i64.wrap (((m' + 1 : Nat) : Int) - 1) = (m' : Int) := by rw [wrapI _ (by omega) (by omega)]; omega
        have hm1' : (0 : Int) < (m' : Int) + 1 := by omega
        have hcell := hrow.cell ts.length (by simp)
        rw [rev_last, hlt] at hcell
        have htake := hide (by have := hrow.take ts.length; rw [rev_take] at this; exact this)
        have hcap2 := hf1.2.1.1
        have hcap3 := hf1.2.2.1
        unfold maxLen at hcap3
        have hn2 : f.len = n2 := hf1.1.symm
        have hn2s := f.len_le_size
        obtain ⟨g', rfl⟩ : ∃ g', gk = g' + 1 := ⟨gk - 1, by omega⟩
        replace hst' := hide hst'
        replace hf1 := hide hf1
        replace hfr1 := hide hfr1
        replace hsl := hide hsl
        replace hx := hide hx
        replace hr := hide hr
        replace hbw := hide hbw
        replace hnuf := hide hnuf
        clear hrow
        go_wp2
        go_loopg [3, 6, 29] n2 (fun gf2 s3 s6 s29 wy => ∃ (i : Nat) (ts : List Value) (fs : List F) (gp cp m : Nat), s29 = .int .i64 i ∧ i + gf2 = n2 ∧ s3 = .slice (some ⟨gp, 0, none⟩) m cp ∧ m = fs.length ∧ nu fs + (f.drop i).size ≤ g' ∧ RowP wy gp cp ts.reverse ∧ gb + 2 ≤ gp ∧ StkF (fun g => (P g ∧ g < gb) ∨ gb + 2 ≤ g) wy (gb + 2) ts fs ∧ SlQ (fun g => (P g ∧ g < gb) ∨ gb + 2 ≤ g) wy a1 n cap1 c ∧ SlQ (fun g => (P g ∧ g < gb) ∨ gb + 2 ≤ g) wy a2 n2 cap2 f ∧ Fresh wy (gb + 2) a2 n2 ∧ NBlk wy gb k t a1 n cap1 ∧ NBlk wy (gb + 1) 0 0 none 0 0 ∧ Below gb w wy)
        case atStart => exact ⟨0, ts, rest, gp, cp, m', rfl, by omega, rfl, hm'.symm, by rw [show f.drop 0 = f by cases f <;> rfl]; omega, unhide htake, hgpB, unhide hst', unhide hsl, unhide hf1, unhide hfr1, unhide hx, unhide hr, unhide hbw⟩
        case round =>
          clear htake hst' hsl hf1 hfr1 hx hr hbw hcell hlastz hlt hm' hmlen hroom hgpB
          obtain ⟨i, ts, fs, gp, cp, m, rfl, hig, rfl, hm, hnu2, hrow, hgpB, hst, hsl, hf1, hfr1, hx, hr, hbw⟩ := hrel
          by_cases hlt : i < n2
          · have hlz : (i : Int) < n2 := by omega
            obtain ⟨q', rfl⟩ : ∃ q', gk = q' + 1 := ⟨gk - 1, by omega⟩
            obtain ⟨g, o, k2, t2, a3, n3, cap3, c3, ha2, htg, hd, z0, z1, z2, hs3⟩ := hf1.at hlt
            obtain ⟨g0, cur0, hg0e, hg0b, hg0h⟩ := hfr1 (by omega)
            rw [hg0e] at ha2
            injection ha2 with ha2
            injection ha2 with ha2 ho2
            subst ha2 ho2
            subst hg0e
            rw [Nat.zero_add] at z0 z1 z2
            have hds := F.drop_size hd
            have hdz : (f.drop i).size = c3.size + 1 + (f.drop (i + 1)).size := by rw [hd]; rfl
            have hc3l := c3.len_le_size
            have hn3 := hs3.1
            have hwb := hbw.size
            have hgl := htg.lt
            have hC := hide (cloneN_any (fun g => (P g ∧ g < gb) ∨ gb + 2 ≤ g) a3 n3 cap3 c3 wr hs3 (fun x hx2 => .inr (by have := hr.lt; omega)) (by omega))
            have hgbs : gb + 2 ≤ wr.heap.size := by have := hr.lt; omega
            replace hd := hide hd
            replace hrow := hide hrow
            replace hst := hide hst
            replace hsl := hide hsl
            replace hf1 := hide hf1
            replace hfr1 := hide hfr1
            replace hx := hide hx
            replace hr := hide hr
            replace hbw := hide hbw
            replace hs3 := hide hs3
            replace hn3 := hide hn3
            replace hm := hide hm
            replace hg0h := hide hg0h
            go_wp2_with fail
            refine (unhide hC).mono ?_
            rintro e W5 ⟨a5, cap5, rfl, hs5, hf5, hb5⟩
            have z2' : W5.cell? ⟨g0, i * 3 + 2, none⟩ = some (.slice a3 n3 cap3) := (hb5.cell (p := ⟨g0, i * 3 + 2, none⟩) hgl).trans z2
            have hfz5 : W5.frozen? ⟨g0, i * 3 + 2, none⟩ = false := Joins.unfrozen_of_block ((hb5.block g0 hgl).trans (unhide hg0h)) _
            have hs3' := (unhide hs3).below hb5
            have hK5 : KeepN wr W5 := keep_below hb5
            have hsl6 := hide (((unhide hsl).below hb5).swap z2' hs3' hs5)
            have hf6 := hide (((unhide hf1).below hb5).swap z2' hs3' hs5)
            have hst6 := hide (((unhide hst).keep hK5).swap z2' hs3' hs5)
            have hs6 := hide (hs5.swap z2' hs3' hs5)
            have hfr6 : Hid (Fresh (W5.setCell ⟨g0, i * 3 + 2, none⟩ (.slice a5 n3 cap5)) (gb + 2) (some ⟨g0, 0, none⟩) n2) := hide ((unhide hfr1).below hK5).set
            have hfa6 : Hid (Fresh (W5.setCell ⟨g0, i * 3 + 2, none⟩ (.slice a5 n3 cap5)) (gb + 2) a5 n3) := hide (hf5.le hgbs).set
            have hgpl := (unhide hrow).lt
            have hne : g0 ≠ gp := fun e => (unhide hrow).noTag (e ▸ ⟨trivial, htg.2⟩)
            have hrow6 := hide (((unhide hrow).same (hb5.block gp hgpl)).same (w' := W5.setCell ⟨g0, i * 3 + 2, none⟩ (.slice a5 n3 cap5)) (Below.heap_setCell _ _ _ gp (fun e => hne e.symm)))
            have hx6 := hide (((unhide hx).same (hb5.block gb (by omega))).same (w' := W5.setCell ⟨g0, i * 3 + 2, none⟩ (.slice a5 n3 cap5)) (Below.heap_setCell _ _ _ gb (by dsimp only; omega)))
            have hr6 := hide (((unhide hr).same (hb5.block (gb + 1) (by omega))).same (w' := W5.setCell ⟨g0, i * 3 + 2, none⟩ (.slice a5 n3 cap5)) (Below.heap_setCell _ _ _ (gb + 1) (by dsimp only; omega)))
            have hb6 : Hid (RowKit.Below gb w (W5.setCell ⟨g0, i * 3 + 2, none⟩ (.slice a5 n3 cap5))) := hide (((unhide hbw).trans (hb5.mono (by omega))).setCell (p := ⟨g0, i * 3 + 2, none⟩) (show gb ≤ g0 by omega) _)
            have hsz6 : gb + 2 ≤ (W5.setCell ⟨g0, i * 3 + 2, none⟩ (.slice a5 n3 cap5)).heap.size := by have := hb5.size; simp; omega
            have hc6 : (W5.setCell ⟨g0, i * 3 + 2, none⟩ (.slice a5 n3 cap5)).cell? ⟨g0, i * 3 + 2, none⟩ = some (.slice a5 n3 cap5) := World.cell?_setCell_same _ _ _ (by rw [z2'])
            clear hs5 hf5 hb5 hs3' hK5 z0 z1 z2 hC hgpl
            replace hc6 := hide hc6
            go_upto_region 11 with fail
            replace hc6 := unhide hc6
            generalize W5.setCell ⟨g0, i * 3 + 2, none⟩ (.slice a5 n3 cap5) = W6 at *
            clear z2' hfz5
            by_cases hn30 : 0 < n3
            · have hn3z : (0 : Int) < n3 := by omega
              have hroom := (unhide hrow6).room
              have hstl := (unhide hst6).len
              have hml := nu_len fs
              rw [List.length_reverse, hstl, ← unhide hm] at hroom
              rw [← unhide hm] at hml
              unfold maxLen at hroom
              have hl6 : ts.reverse.length = m := by rw [List.length_reverse, hstl, ← unhide hm]
              have hown6 := (unhide hrow6).own (base := gb + 2) hgpB
              rw [hl6] at hown6
              have hown7 := World.ownsRow.alloc hown6 (.cells #[.slice a5 n3 cap5] 24 (0, 0))
              have hbA := below_alloc W6 (.cells #[.slice a5 n3 cap5] 24 (0, 0))
              have hK7 : KeepN W6 (W6.alloc (.cells #[.slice a5 n3 cap5] 24 (0, 0))) := keep_below hbA
              have hnt6 := (unhide hrow6).noTag
              have hgpl6 := (unhide hrow6).lt
              have hnt7 : ¬ Tag (W6.alloc (.cells #[.slice a5 n3 cap5] 24 (0, 0))) gp := ((unhide hrow6).same (w' := W6.alloc (.cells #[.slice a5 n3 cap5] 24 (0, 0))) (Below.heap_alloc _ _ _ hgpl6)).noTag
              have hnews : ∀ (j : Nat) (u : Value), [Value.slice a5 n3 cap5][j]? = some u → (W6.alloc (.cells #[.slice a5 n3 cap5] 24 (0, 0))).cell? (Addr.add ⟨W6.heap.size, 0, none⟩ j) = some u := by
                intro j u hj
                match j, hj with
                | 0, hj => simp at hj; subst hj; simp [Addr.add]
              have hs7 : (W6.alloc (.cells #[.slice a5 n3 cap5] 24 (0, 0))).heap.size = W6.heap.size + 1 := by simp
              replace hown6 := hide hown6
              replace hown7 := hide hown7
              replace hnews := hide hnews
              replace hbA := hide hbA
              replace hl6 := hide hl6
              replace hstl := hide hstl
              obtain ⟨i0, hi, hz0, hz1, hz2⟩ := info_parts Tryd.info24
              have hinf := hide (And.intro hi (And.intro hz0 (And.intro hz1 hz2)))
              clear hi hz0 hz1 hz2
              go_wp2_with (at_builtin; refine wpList_append_lies _ rfl _ _ 51 rfl (gb + 2) 24 i0 (.slice none 0 0) 1 24 Tryd.underlying51 (unhide hinf).1 (unhide hinf).2.1 (unhide hinf).2.2.1 (unhide hinf).2.2.2 rfl (by decide) _ m _ rfl (unhide hown7) ⟨W6.heap.size, 0, none⟩ 1 1 [.slice a5 n3 cap5] rfl rfl (unhide hnews) ?h1 (by omega) (by unfold maxLen; omega) (by omega) (by simp; omega) _ rfl ?_; case h1 => (intro u hu; rw [List.mem_singleton] at hu; subst hu; rfl))
              intro gq cq W8 hown8 hg8 hat8 hlt8
              obtain ⟨hr8, hl8⟩ := RowP.of hown8
              have hgq : gb + 2 ≤ gq := by
                rcases hat8 with h | h
                · have : gq = gp := by simpa [Value.ownBlock] using h.symm
                  omega
                · have h : gq = W6.heap.size + 1 := h
                  omega
              have hK8 : KeepN (W6.alloc (.cells #[.slice a5 n3 cap5] 24 (0, 0))) W8 := keep_grown hg8 (fun x hx => by
                have : gp = x := by simpa [Value.ownBlock] using hx
                subst this; exact hnt7)
              have hK := hK7.trans hK8
              have hKP : KeepQ (fun g => (P g ∧ g < gb) ∨ gb + 2 ≤ g) W6 W8 := fun x hx => hK x ⟨trivial, hx.2⟩
              have hblk : ∀ x, x < gb + 2 → W8.heap[x]? = W6.heap[x]? := fun x hx => by
                rw [hg8.block x (by rw [hs7]; omega) (fun e => by
                  have : gp = x := by simpa [Value.ownBlock] using e.symm
                  omega), (unhide hbA).block x (by omega)]
              have hsl8 := hide ((unhide hsl6).keep hKP)
              have hf8 := hide ((unhide hf6).keep hKP)
              have hfr8 := hide ((unhide hfr6).below hK)
              have hst8 : Hid (StkF (fun g => (P g ∧ g < gb) ∨ gb + 2 ≤ g) W8 (gb + 2) (.slice a5 n3 cap5 :: ts) (c3 :: fs)) := hide ⟨⟨_, _, _, rfl, (unhide hs6).keep hKP, (unhide hfa6).below hK⟩, (unhide hst6).keep hK⟩
              have hx8 := hide ((unhide hx6).same (hblk gb (by omega)))
              have hr9 := hide ((unhide hr6).same (hblk (gb + 1) (by omega)))
              have hb8 : Hid (RowKit.Below gb w W8) := hide (((unhide hb6).trans ((unhide hbA).mono (by omega))).grown hg8 (by rw [hs7]; omega) (fun q hq => by
                have : gp = q := by simpa [Value.ownBlock] using hq
                omega))
              rw [show ts.reverse ++ [.slice a5 n3 cap5] = (.slice a5 n3 cap5 :: ts).reverse by simp] at hr8
              have hm8 : Hid (m + 1 = (c3 :: fs).length) := hide (by rw [List.length_cons, ← unhide hm])
              have hnu8 : nu (c3 :: fs) + (f.drop (i + 1)).size ≤ g' := by simp only [nu]; omega
              replace hr8 := hide hr8
              clear hown8 hg8 hat8 hl8 hK7 hK8 hK hKP hblk hs7
              go_wp2
              go_roundg q'
              case measure => omega
              case rel => exact ⟨i + 1, _, _, gq, cq, m + 1, by go_num, by omega, rfl, unhide hm8, hnu8, unhide hr8, hgq, unhide hst8, unhide hsl8, unhide hf8, unhide hfr8, unhide hx8, unhide hr9, unhide hb8⟩
            · have hn3z : ¬ (0 : Int) < n3 := by omega
              have hnu8 : nu fs + (f.drop (i + 1)).size ≤ g' := by omega
              go_wp2
              go_roundg q'
              case measure => omega
              case rel => exact ⟨i + 1, ts, fs, gp, cp, m, by go_num, by omega, rfl, unhide hm, hnu8, unhide hrow6, hgpB, unhide hst6, unhide hsl6, unhide hf6, unhide hfr6, unhide hx6, unhide hr6, unhide hb6⟩
          · have hlz : ¬ (i : Int) < n2 := by omega
            have hnu3 : nu fs ≤ g' := by omega
            replace hm := hide hm
            go_wp2
            go_roundg g'
            case measure => omega
            case rel => exact ⟨ts, fs, gp, cp, m, rfl, unhide hm, hnu3, by omega, hrow, hgpB, hst, hsl, hx, hr, hbw⟩
end Go.Proofs.YthnapcdanccohaaDoor
