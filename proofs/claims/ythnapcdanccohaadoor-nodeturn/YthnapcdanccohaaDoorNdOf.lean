/-
  Of: the tree of a list of numbers.
-/
import Derived.Test.YthnapcdanccohaaDoorNdFindM
import Derived.Test.YthnapcdanccohaaDoorNdTree
import Derived.BigRegion
namespace Go.Proofs.YthnapcdanccohaaDoor
open Go.RowKit Go.Lib Go.Sort
set_option linter.unusedSimpArgs false
set_option linter.unusedVariables false
def kdO (z : Int) : Int := wrap64 (1 + (bits .and .i64 z 31).tmod 28)
def tkO (z : Int) : Int := bits .and .i64 (z / 32) 7
def odO (z : Int) : Bool := bits .and .i64 z 1 == 1
def tO (zs : List Int) (d i : Nat) : F × Nat := ofT kdO tkO odO zs d i
/-- The numbers lie in block g. -/
def RdI (w : World) (g o m : Nat) (zs : List Int) : Prop := g < w.heap.size ∧ ∀ j, j < m → w.cell? ⟨g, o + j, none⟩ = some (.int .i64 (zs.getD j 0))
theorem RdI.same {w w' : World} {g o m : Nat} {zs : List Int} (h : RdI w g o m zs) (hs : w.heap.size ≤ w'.heap.size) (e : w'.heap[g]? = w.heap[g]?) : RdI w' g o m zs :=
  ⟨Nat.lt_of_lt_of_le h.1 hs, fun j hj => (World.cell?_of_block (a := ⟨g, o + j, none⟩) e).trans (h.2 j hj)⟩
theorem NBlk.set0 {w : World} {g : Nat} {k t : Int} {a : Option Addr} {n cap : Nat} (h : NBlk w g k t a n cap) (k' : Int) : NBlk (w.setCell ⟨g, 0, none⟩ (.int .i64 k')) g k' t a n cap := by
  have := Joins.block_setCell (i := 0) h (.int .i64 k')
  exact this
theorem NBlk.set1 {w : World} {g : Nat} {k t : Int} {a : Option Addr} {n cap : Nat} (h : NBlk w g k t a n cap) (t' : Int) : NBlk (w.setCell ⟨g, 1, none⟩ (.int .i64 t')) g k t' a n cap := by
  have := Joins.block_setCell (i := 1) h (.int .i64 t')
  exact this
/-- How the loop of Of stands: gr the result's block, gr + 1 the node's. -/
structure OfI (zs : List Int) (g o m ga gr d i : Nat) (k t : Int) (w : World) (j : Nat) (wx : World) : Prop where
  jm : i ≤ j
  at' : Cell1 wx ga 3 (.int .i64 j)
  row : ∃ (a : Option Addr) (cap : Nat) (xs : List NV) (L : List Nd), NBlk wx (gr + 1) k t a xs.length cap ∧ OwnN wx (gr + 2) (.slice a xs.length cap) xs ∧
    Reads (fun x => gr + 2 ≤ x ∧ (Value.slice a xs.length cap).ownBlock ≠ some x) wx xs (F.ofL L) ∧ (F.ofL L).app (tO zs d j).1 = (tO zs d i).1 ∧ xs.length ≤ j
  eq2 : (tO zs d j).2 = (tO zs d i).2
  res : NBlk wx gr 0 0 none 0 0
  mv : Moves (fun x => x = ga) (fun x => x = ga) w wx
theorem run_call3 {P : Program} {W : World} {A : Act} {d : Option Nat} {f : FuncId} {x y z : Operand} {ts : Array TypeId} {t : TypeId} {p : String} {af : Array Edge} {gd : Option (Nat × Bool)} (hf : ∀ us W, Sem.run P (callFunc f us) W = .ok (.enter f us) W) :
    (execOp A.eval { dst := d, op := .call { callee := .value (.func f), args := #[x, y, z], argTypes := ts }, type := t, pos := p, after := af, guard := gd }).run P W = .ok (.enter f #[A.eval x, A.eval y, A.eval z]) W := by
  have h := hf #[A.eval x, A.eval y, A.eval z] W
  generalize hv : A.eval x = v at h
  generalize hu : A.eval y = u at h
  generalize hq : A.eval z = q at h
  have e : A.eval (.func f) = .func (.func f) #[] #[] := rfl
  unfold execOp
  simp only [resolve, invoke, Sem.run_bind, Sem.run_pure, Result.andThen_ok, List.map_toArray, List.map_cons, List.map_nil, hv, hu, hq, e, Deferred.ofValue, Array.empty_append, Array.append_empty, List.nil_append, List.append_nil, List.append_toArray, h]
theorem cf_nlOf (us : Array Value) (W : World) : Sem.run Tryd.prog (callFunc 22 us) W = .ok (.enter 22 us) W := by kernel_rfl
theorem F.app_nil : ∀ f : F, f.app .nil = f
  | .nil => rfl
  | .cons k t c r => by simp only [F.app]; rw [F.app_nil r]
theorem F.app_assoc : ∀ f g h : F, (f.app g).app h = f.app (g.app h)
  | .nil, _, _ => rfl
  | .cons k t c r, g, h => by simp only [F.app]; rw [F.app_assoc r g h]
/-- Where the loop ends: the node is laid into the result's block. -/
theorem of_fin {zs : List Int} {g o m ga gr d i j : Nat} {k t : Int} {w wx : World} (hI : OfI zs g o m ga gr d i k t w j wx) (hs : tO zs d j = (.nil, j)) (hgr : w.heap.size = gr) (hga : ga < gr) {a : Option Addr} {n cap : Nat} (hnb : NBlk wx (gr + 1) k t a n cap) :
    NBlk (((wx.setCell ⟨gr, 0, none⟩ (.int .i64 k)).setCell ⟨gr, 1, none⟩ (.int .i64 t)).setCell ⟨gr, 2, none⟩ (.slice a n cap)) gr k t a n cap ∧
    SlQ (fun x => gr ≤ x) (((wx.setCell ⟨gr, 0, none⟩ (.int .i64 k)).setCell ⟨gr, 1, none⟩ (.int .i64 t)).setCell ⟨gr, 2, none⟩ (.slice a n cap)) a n cap (tO zs d i).1 ∧
    Cell1 (((wx.setCell ⟨gr, 0, none⟩ (.int .i64 k)).setCell ⟨gr, 1, none⟩ (.int .i64 t)).setCell ⟨gr, 2, none⟩ (.slice a n cap)) ga 3 (.int .i64 ((tO zs d i).2 : Nat)) ∧
    Moves (fun x => x = ga) (fun x => x = ga) w (((wx.setCell ⟨gr, 0, none⟩ (.int .i64 k)).setCell ⟨gr, 1, none⟩ (.int .i64 t)).setCell ⟨gr, 2, none⟩ (.slice a n cap)) := by
  obtain ⟨_, h1, ⟨a', cap', xs, L, hn2, hown, hrd, hL, _⟩, h2, h3, h4⟩ := hI
  have hh : ∀ x, x ≠ gr → (((wx.setCell ⟨gr, 0, none⟩ (.int .i64 k)).setCell ⟨gr, 1, none⟩ (.int .i64 t)).setCell ⟨gr, 2, none⟩ (.slice a n cap)).heap[x]? = wx.heap[x]? := fun x hx => by rw [Below.heap_setCell _ _ _ x hx, Below.heap_setCell _ _ _ x hx, Below.heap_setCell _ _ _ x hx]
  have e : a = a' ∧ n = xs.length ∧ cap = cap' := by
    have h := hnb.box.2.2.symm.trans hn2.box.2.2
    simpa using h
  obtain ⟨rfl, rfl, rfl⟩ := e
  refine ⟨((h3.set0 k).set1 t).set, ?_, ?_, ?_⟩
  · obtain ⟨a2, cap2, e, hsl, _⟩ := OwnN.sl (P := fun x => gr + 2 ≤ x) hown (hrd.mono (fun x hx => hx.1.1)) (fun _ h => h)
    have e : a = a2 ∧ cap = cap2 := by simpa using e
    obtain ⟨rfl, rfl⟩ := e
    rw [← hL, hs, F.app_nil]
    exact (hsl.keep (fun x hx => hh x (by have := hx.1; omega))).mono (fun x hx => by have := hx.1; omega)
  · rw [← h2, hs]
    exact h1.same (hh ga (by omega))
  · exact ⟨h4.os, h4.tape, h4.output, by simp; exact h4.size, fun x hx hc => (hh x (by omega)).trans (h4.block x hx hc), fun _ h => .inl h⟩
set_option maxHeartbeats 8000000 in
set_option maxRecDepth 100000 in
theorem nlOf_any (zs : List Int) (g o m cap ga : Nat) (hm : zs.length = m) (hm2 : m ≤ 1000) (hgg : g ≠ ga) : ∀ (N : Nat) (w : World) (i d : Nat) (z : Int), zs.getD i 0 = z → m - i < N → i < m → d ≤ 6 → Cell1 w ga 3 (.int .i64 i) → RdI w g o m zs →
    Calls Tryd.prog 22 #[.slice (some ⟨g, o, none⟩) m cap, .pointer (some ⟨ga, 0, none⟩), .int .i64 d] w fun e w' => ∃ (a' : Option Addr) (n' cap' : Nat), e = .returned (.agg #[.int .i64 (kdO z), .int .i64 (tkO z), .slice a' n' cap']) ∧
      SlQ (fun x => w.heap.size ≤ x) w' a' n' cap' (tO zs d (i + 1)).1 ∧ Cell1 w' ga 3 (.int .i64 ((tO zs d (i + 1)).2 : Nat)) ∧ Moves (fun x => x = ga) (fun x => x = ga) w w' := by
  intro N
  induction N with
  | zero => intro w i d z hzs hN; omega
  | succ N ih =>
    intro w i d z hzs hN hi hd hA hR
    replace ih := hide ih
    obtain ⟨gr, hgr⟩ : ∃ gr, w.heap.size = gr := ⟨_, rfl⟩
    have hlt := hA.lt
    have hg := hR.1
    have n0 := nblk_new w 0 0 none 0 0
    have n1 := nblk_new (w.alloc (.cells #[.int .i64 0, .int .i64 0, .slice none 0 0] 26 (0, 0))) 0 0 none 0 0
    rw [show (w.alloc (.cells #[.int .i64 0, .int .i64 0, .slice none 0 0] 26 (0, 0))).heap.size = gr + 1 by simp [hgr]] at n1
    rw [hgr] at n0
    have hb : Below w.heap.size w ((w.alloc (.cells #[.int .i64 0, .int .i64 0, .slice none 0 0] 26 (0, 0))).alloc (.cells #[.int .i64 0, .int .i64 0, .slice none 0 0] 26 (0, 0))) := ((Below.refl _ _).alloc (Nat.le_refl _) _).alloc (by simp) _
    have n0' : NBlk ((w.alloc (.cells #[.int .i64 0, .int .i64 0, .slice none 0 0] 26 (0, 0))).alloc (.cells #[.int .i64 0, .int .i64 0, .slice none 0 0] 26 (0, 0))) gr 0 0 none 0 0 := n0.same (Below.heap_alloc _ _ _ n0.lt)
    have hA1 : Cell1 ((w.alloc (.cells #[.int .i64 0, .int .i64 0, .slice none 0 0] 26 (0, 0))).alloc (.cells #[.int .i64 0, .int .i64 0, .slice none 0 0] 26 (0, 0))) ga 3 (.int .i64 i) := hA.same (hb.block ga hlt)
    have hR1 : RdI ((w.alloc (.cells #[.int .i64 0, .int .i64 0, .slice none 0 0] 26 (0, 0))).alloc (.cells #[.int .i64 0, .int .i64 0, .slice none 0 0] 26 (0, 0))) g o m zs := hR.same hb.size (hb.block g hg)
    have hM1 : Moves (fun x => x = ga) (fun x => x = ga) w ((w.alloc (.cells #[.int .i64 0, .int .i64 0, .slice none 0 0] 26 (0, 0))).alloc (.cells #[.int .i64 0, .int .i64 0, .slice none 0 0] 26 (0, 0))) := ⟨hb.os, hb.tape, hb.output, hb.size, fun x hx _ => hb.block x hx, fun _ h => .inl h⟩
    have hsz1 : ((w.alloc (.cells #[.int .i64 0, .int .i64 0, .slice none 0 0] 26 (0, 0))).alloc (.cells #[.int .i64 0, .int .i64 0, .slice none 0 0] 26 (0, 0))).heap.size = gr + 2 := by simp [hgr]
    have hlz : (i : Int) < m := by omega
    have hga1 : ga ≠ gr + 1 := by omega
    have hga0 : ga ≠ gr := by omega
    have hg1 : g ≠ gr + 1 := by omega
    have hg0 : g ≠ gr := by omega
    have hc := hA1.cell
    have hzz := (hR1.2 i hi)
    rw [hzs] at hzz
    obtain ⟨y0, y1, y2⟩ := n1.box
    have f0 := n1.frozen 0
    have f1 := n1.frozen 1
    replace hb := hide hb
    replace n0 := hide n0'
    replace n1 := hide n1
    replace hA := hide hA
    replace hR := hide hR
    replace hA1 := hide hA1
    replace hR1 := hide hR1
    replace hM1 := hide hM1
    replace hsz1 := hide hsz1
    replace hzs := hide hzs
    clear n0'
    go_enter Tryd.func22, Tryd.ntmps22
    go_upto_region 3 with fail
    generalize ((w.alloc (.cells #[.int .i64 0, .int .i64 0, .slice none 0 0] 26 (0, 0))).alloc (.cells #[.int .i64 0, .int .i64 0, .slice none 0 0] 26 (0, 0))) = W2 at *
    go_region
    have hh : ∀ x, x ≠ gr + 1 → ((W2.setCell ⟨gr + 1, 0, none⟩ (.int .i64 (kdO z))).setCell ⟨gr + 1, 1, none⟩ (.int .i64 (tkO z))).drew.heap[x]? = W2.heap[x]? := fun x hx => (Below.heap_setCell _ _ _ x hx).trans (Below.heap_setCell _ _ _ x hx)
    have hn3 : NBlk ((W2.setCell ⟨gr + 1, 0, none⟩ (.int .i64 (kdO z))).setCell ⟨gr + 1, 1, none⟩ (.int .i64 (tkO z))).drew (gr + 1) (kdO z) (tkO z) none 0 0 := ((unhide n1).set0 (kdO z)).set1 (tkO z)
    have hA3 := (unhide hA1).same (hh ga hga1)
    have hR3 := (unhide hR1).same (Nat.le_of_eq (by simp [World.drew])) (hh g hg1)
    have hn0 := (unhide n0).same (hh gr (by omega))
    have hsz3 : ((W2.setCell ⟨gr + 1, 0, none⟩ (.int .i64 (kdO z))).setCell ⟨gr + 1, 1, none⟩ (.int .i64 (tkO z))).drew.heap.size = gr + 2 := by have := unhide hsz1; simpa [World.drew] using this
    have hM3 : Moves (fun x => x = ga) (fun x => x = ga) w ((W2.setCell ⟨gr + 1, 0, none⟩ (.int .i64 (kdO z))).setCell ⟨gr + 1, 1, none⟩ (.int .i64 (tkO z))).drew :=
      ⟨(unhide hM1).os, (unhide hM1).tape, (unhide hM1).output, by rw [hsz3]; omega, fun x hx hc => (hh x (by omega)).trans ((unhide hM1).block x hx hc), fun _ h => .inl h⟩
    change Exit.then _ _ _ _ ((W2.setCell ⟨gr + 1, 0, none⟩ (.int .i64 (kdO z))).setCell ⟨gr + 1, 1, none⟩ (.int .i64 (tkO z))).drew
    generalize ((W2.setCell ⟨gr + 1, 0, none⟩ (.int .i64 (kdO z))).setCell ⟨gr + 1, 1, none⟩ (.int .i64 (tkO z))).drew = W3 at *
    have hc3 := hA3.cell
    have hf3 := hA3.frozen
    replace hh := hide hh
    clear hc hzz y0 y1 y2 f0 f1
    go_wp2
    go_loopg [60] (m + 1) (fun gf s60 wx => ∃ j : Nat, m + 1 ≤ j + gf ∧ j ≤ m ∧ OfI zs g o m ga gr d (i + 1) (kdO z) (tkO z) w j wx)
    case atStart =>
      refine ⟨i + 1, by omega, by omega, Nat.le_refl _, ?_, ⟨none, 0, [], [], ?_, ownN_nil _ _, trivial, rfl, Nat.zero_le _⟩, rfl, ?_, ?_⟩
      · have := hA3.set (.int .i64 ((i : Int) + 1))
        simpa using this
      · exact hn3.same (Below.heap_setCell _ _ _ _ (Ne.symm hga1))
      · exact hn0.same (Below.heap_setCell _ _ _ _ (Ne.symm hga0))
      · exact hM3.trans (moves_set _ ga 0 _ (fun x => x = ga) rfl)
    case round =>
      obtain ⟨j, hjg, hjm, hI⟩ := hrel
      have hcr := hI.at'.cell
      have hRr := (unhide hR).same hI.mv.size (hI.mv.block g hg hgg)
      obtain ⟨a, cap', xs, L, hnb, hown, hrd, hL, hxj⟩ := hI.row
      obtain ⟨q0, q1, q2⟩ := hnb.box
      by_cases hgo : d < 6 ∧ j < m ∧ odO (zs.getD j 0) = true
      · obtain ⟨hd6, hjl, hod⟩ := hgo
        have hdz : (d : Int) < 6 := by omega
        have hjz : (j : Int) < m := by omega
        have hzj := hRr.2 j hjl
        have hstep := hide (ofT_step kdO tkO odO zs (d := d) (i := j) hd6 (by omega) hod)
        obtain ⟨zj, hzj0⟩ : ∃ zj, zs.getD j 0 = zj := ⟨_, rfl⟩
        have hod' : (bits .and .i64 zj 1 == 1) = true := by rw [← hzj0]; exact hod
        rw [hzj0] at hzj hstep
        clear hod
        obtain ⟨g', rfl⟩ : ∃ g', gk = g' + 1 := ⟨gk - 1, by omega⟩
        have hAr := hI.at'
        have hIr := hI.res
        have hMr := hI.mv
        have hIe := hI.eq2
        have hIj := hI.jm
        replace hI := hide hI
        replace hown := hide hown
        replace hrd := hide hrd
        replace hL := hide hL
        go_upto_region 6 with fail
        clear hcr q0 q1 q2 hzj
        refine wp_region_D (fun w' => NBlk w' (gr + 1) (kdO z) (tkO z) a xs.length cap') (fun j => [9, 10].contains j) (by kernel_rfl) ?_
        have hS : NBlk wr.drew (gr + 1) (kdO z) (tkO z) a xs.length cap' := hnb
        have hAD : Cell1 wr.drew ga 3 (.int .i64 j) := hAr
        have hRD : RdI wr.drew g o m zs := hRr
        have hID : NBlk wr.drew gr 0 0 none 0 0 := hIr
        have hOD : OwnN wr.drew (gr + 2) (.slice a xs.length cap') xs := unhide hown
        have hQD : Reads (fun x => gr + 2 ≤ x ∧ (Value.slice a xs.length cap').ownBlock ≠ some x) wr.drew xs (F.ofL L) := (unhide hrd).keep (keep_drew wr 1)
        have hMD : Moves (fun x => x = ga) (fun x => x = ga) w wr.drew := moves_of hMr ((Below.refl _ _).drew)
        clear hnb hAr hRr hIr hMr hown hrd hI
        generalize World.drew wr = WD at hS hAD hRD hID hOD hQD hMD ⊢
        refine wpAnyD_takeC (i := 0) (v := .pointer (some ⟨gr + 1, 2, none⟩)) [9, 10] (fun _ => rfl) rfl (by kernel_rfl) 3 (by kernel_rfl) rfl (by kernel_rfl) (by kernel_rfl) (by kernel_rfl) (fun _ _ _ h => h) (Or.inl ⟨by kernel_rfl, ?_⟩) hS ?_
        · intro w hSw
          go_simp
        try simp only [List.getElem_toArray, List.getElem_cons_succ, List.getElem_cons_zero, Act.put, List.setIfInBounds_toArray, List.set_cons_zero, List.set_cons_succ]
        refine wpAnyD_takeC (i := 1) (v := .slice a xs.length cap') [9, 10] (fun _ => rfl) rfl (by kernel_rfl) 3 (by kernel_rfl) rfl (by kernel_rfl) (by kernel_rfl) (by kernel_rfl) (fun _ _ _ h => h) (Or.inl ⟨by kernel_rfl, ?_⟩) hS ?_
        · intro w hSw
          obtain ⟨z0, z1, z2⟩ := hSw.box
          go_simp
        try simp only [List.getElem_toArray, List.getElem_cons_succ, List.getElem_cons_zero, Act.put, List.setIfInBounds_toArray, List.set_cons_zero, List.set_cons_succ]
        refine wpAnyD_takeC (i := 2) (v := .slice (some ⟨g, o, none⟩) m cap) [9, 10] (fun _ => rfl) rfl (by kernel_rfl) 3 (by kernel_rfl) rfl (by kernel_rfl) (by kernel_rfl) (by kernel_rfl) (fun _ _ _ h => h) (Or.inl ⟨by kernel_rfl, ?_⟩) hS ?_
        · intro w hSw
          go_simp
        try simp only [List.getElem_toArray, List.getElem_cons_succ, List.getElem_cons_zero, Act.put, List.setIfInBounds_toArray, List.set_cons_zero, List.set_cons_succ]
        refine wpAnyD_takeC (i := 3) (v := .pointer (some ⟨ga, 0, none⟩)) [9, 10] (fun _ => rfl) rfl (by kernel_rfl) 3 (by kernel_rfl) rfl (by kernel_rfl) (by kernel_rfl) (by kernel_rfl) (fun _ _ _ h => h) (Or.inl ⟨by kernel_rfl, ?_⟩) hS ?_
        · intro w hSw
          go_simp
        try simp only [List.getElem_toArray, List.getElem_cons_succ, List.getElem_cons_zero, Act.put, List.setIfInBounds_toArray, List.set_cons_zero, List.set_cons_succ]
        refine wpAnyD_takeC (i := 4) (v := .int .i64 d) [9, 10] (fun _ => rfl) rfl (by kernel_rfl) 3 (by kernel_rfl) rfl (by kernel_rfl) (by kernel_rfl) (by kernel_rfl) (fun _ _ _ h => h) (Or.inl ⟨by kernel_rfl, ?_⟩) hS ?_
        · intro w hSw
          go_simp
        try simp only [List.getElem_toArray, List.getElem_cons_succ, List.getElem_cons_zero, Act.put, List.setIfInBounds_toArray, List.set_cons_zero, List.set_cons_succ]
        refine wpAnyD_takeC (i := 5) (v := .int .i64 ((d : Int) + 1)) [9, 10] (fun _ => rfl) rfl (by kernel_rfl) 3 (by kernel_rfl) rfl (by kernel_rfl) (by kernel_rfl) (by kernel_rfl) (fun _ _ _ h => h) (Or.inl ⟨by kernel_rfl, ?_⟩) hS ?_
        · intro w hSw
          go_simp
          rw [IntKind.wrap_i64]; omega
        try simp only [List.getElem_toArray, List.getElem_cons_succ, List.getElem_cons_zero, Act.put, List.setIfInBounds_toArray, List.set_cons_zero, List.set_cons_succ]
        refine wpAnyD_one (i := 6) rfl (by kernel_rfl) (fun K hK => ?_)
        rw [if_pos (by kernel_rfl)]
        refine oper_call (run_call3 cf_nlOf) ((unhide ih WD j (d + 1) zj hzj0 (by omega) hjl (by omega) hAD hRD).mono ?_)
        rintro e W5 ⟨a5, n5, c5, rfl, hs5, hA5, hM5⟩
        have hS5 := hS.same (hM5.block (gr + 1) hS.lt (Ne.symm hga1))
        have hsz5 := hM5.size
        refine ⟨_, rfl, hK _ _ (fun _ => hS5) ?_⟩
        clear hK K
        try simp only [List.getElem_toArray, List.getElem_cons_succ, List.getElem_cons_zero, Act.put, List.setIfInBounds_toArray, List.set_cons_zero, List.set_cons_succ]
        have hID5 := hID.same (hM5.block gr hID.lt (Ne.symm hga0))
        have hgrl := hS.lt
        have olt : ∀ x, (Value.slice a xs.length cap').ownBlock = some x → gr + 2 ≤ x ∧ x < WD.heap.size := fun x hx => World.ownsRow.lt hOD x hx
        have hOD5 : OwnN W5 (gr + 2) (.slice a xs.length cap') xs := rowN_kept hOD (fun x hx => hM5.block x (olt x hx).2 (by have := olt x hx; omega))
        have hQD5 := hQD.keep (w' := W5) (fun x hx => hM5.block x hx.lt (by have := hx.1.1; omega))
        have hMD5 := hMD.trans hM5
        refine wpAnyD_one (i := 7) rfl (by kernel_rfl) (fun K hK => ?_)
        rw [if_pos (by kernel_rfl)]
        refine oper_of_run (run_build_node W5 _ _ _ _ _ _ _ (kdO zj) (tkO zj) a5 n5 c5 rfl) ?_
        have hbz := below_alloc W5 (.cells #[.int .i64 (kdO zj), .int .i64 (tkO zj), .slice a5 n5 c5] 26 (0, 0))
        have hzn : ∀ (j : Nat) (u : Value), (nvC [⟨kdO zj, tkO zj, a5, n5, c5⟩])[j]? = some u → (W5.alloc (.cells #[.int .i64 (kdO zj), .int .i64 (tkO zj), .slice a5 n5 c5] 26 (0, 0))).cell? (Addr.add ⟨W5.heap.size, 0, none⟩ j) = some u := by
          intro j u hj
          rw [show Addr.add ⟨W5.heap.size, 0, none⟩ j = ⟨W5.heap.size, j, none⟩ by simp [Addr.add]; omega, World.cell?_alloc_mark, List.getElem?_toArray]
          exact hj
        have hS6 := hS5.same (hbz.block (gr + 1) hS5.lt)
        have hID6 := hID5.same (hbz.block gr hID5.lt)
        have hA6 := hA5.alloc (.cells #[.int .i64 (kdO zj), .int .i64 (tkO zj), .slice a5 n5 c5] 26 (0, 0))
        have hOD6 : OwnN (W5.alloc (.cells #[.int .i64 (kdO zj), .int .i64 (tkO zj), .slice a5 n5 c5] 26 (0, 0))) (gr + 2) (.slice a xs.length cap') xs := rowN_kept hOD5 (fun x hx => hbz.block x (by have := olt x hx; omega))
        have hQD6 := hQD5.keep (keep_below hbz)
        have hs6 := (hs5.mono (P' := fun x => WD.heap.size ≤ x ∧ x < W5.heap.size) (fun x hx => ⟨hx.1, hx.lt⟩)).below hbz
        have hMD6 := moves_of hMD5 (hbz.mono hMD5.size)
        have hsz6 : (W5.alloc (.cells #[.int .i64 (kdO zj), .int .i64 (tkO zj), .slice a5 n5 c5] 26 (0, 0))).heap.size = W5.heap.size + 1 := by simp
        refine hK _ _ (fun _ => hS6) ?_
        clear hK K
        generalize (W5.alloc (.cells #[.int .i64 (kdO zj), .int .i64 (tkO zj), .slice a5 n5 c5] 26 (0, 0))) = W6 at *
        clear hbz hS5 hID5 hA5 hOD5 hQD5 hs5 hMD5 hMD hQD hOD hS hID hAD hRD
        generalize W5.heap.size = z5 at *
        have hgrl6 := hS6.lt
        try simp only [List.getElem_toArray, List.getElem_cons_succ, List.getElem_cons_zero, Act.put, List.setIfInBounds_toArray, List.set_cons_zero, List.set_cons_succ]
        refine wpAnyD_one (i := 8) rfl (by kernel_rfl) (fun K hK => ?_)
        rw [if_pos (by kernel_rfl)]
        obtain ⟨i0, hi0, hz0, hz1, hz2⟩ := info_parts Tryd.info26
        refine wp_append_lies W6 _ _ 24 rfl (gr + 2) 26 i0 _ 3 40 Tryd.underlying24 hi0 hz0 hz1 hz2 rfl (by decide) (.slice a xs.length cap') xs.length (nvC xs) rfl hOD6 ⟨z5, 0, none⟩ 1 1 (nvC [⟨kdO zj, tkO zj, a5, n5, c5⟩]) rfl rfl hzn (one_nv _) (by omega) (by unfold maxLen; omega) (by omega) (by omega) _ rfl ?_
        intro gq cq W7 hown7 hg7 hat7 hlt7
        have ho7 : OwnN W7 (gr + 2) (.slice (some ⟨gq, 0, none⟩) (xs.length + 1) cq) (xs ++ [⟨kdO zj, tkO zj, a5, n5, c5⟩]) := by
          unfold OwnN
          rw [nvC_app, List.length_append]
          exact hown7
        have hS7 := hS6.same (hg7.block (gr + 1) hS6.lt (fun e => by have := olt _ e.symm; omega))
        refine hK _ _ (fun _ => hS7) ?_
        clear hK K hown7
        try simp only [List.getElem_toArray, List.getElem_cons_succ, List.getElem_cons_zero, Act.put, List.setIfInBounds_toArray, List.set_cons_zero, List.set_cons_succ]
        refine wpAnyD_one (i := 9) rfl (by kernel_rfl) (fun K hK => ?_)
        rw [if_pos (by kernel_rfl)]
        refine oper_of_run (v := .pointer (some ⟨gr + 1, 2, none⟩)) (w' := W7) (by clear hK; go_simp) ?_
        refine hK _ _ (fun h => by cases h) ?_
        clear hK K
        try simp only [List.getElem_toArray, List.getElem_cons_succ, List.getElem_cons_zero, Act.put, List.setIfInBounds_toArray, List.set_cons_zero, List.set_cons_succ]
        refine wpAnyD_one (i := 10) rfl (by kernel_rfl) (fun K hK => ?_)
        rw [if_pos (by kernel_rfl)]
        obtain ⟨t0, t1, t2⟩ := hS7.box
        have t3 := hS7.frozen 2
        replace hK := hide hK
        go_simp
        refine unhide hK _ _ (fun h => by cases h) ?_
        clear hK K t0 t1 t2 t3
        try simp only [List.getElem_toArray, List.getElem_cons_succ, List.getElem_cons_zero, Act.put, List.setIfInBounds_toArray, List.set_cons_zero, List.set_cons_succ]
        refine wpAnyD_done (by kernel_rfl) ?_ _
        have hnX := hS7.set (a' := some ⟨gq, 0, none⟩) (n' := xs.length + 1) (cap' := cq)
        have hhX : ∀ x, x ≠ gr + 1 → (W7.setCell ⟨gr + 1, 2, none⟩ (.slice (some ⟨gq, 0, none⟩) (xs.length + 1) cq)).heap[x]? = W7.heap[x]? := fun x hx => Below.heap_setCell _ _ _ x hx
        have hszX : (W7.setCell ⟨gr + 1, 2, none⟩ (.slice (some ⟨gq, 0, none⟩) (xs.length + 1) cq)).heap.size = W7.heap.size := by simp
        have hosX : (W7.setCell ⟨gr + 1, 2, none⟩ (.slice (some ⟨gq, 0, none⟩) (xs.length + 1) cq)).os = W7.os := rfl
        have htaX : (W7.setCell ⟨gr + 1, 2, none⟩ (.slice (some ⟨gq, 0, none⟩) (xs.length + 1) cq)).tape = W7.tape := rfl
        have houX : (W7.setCell ⟨gr + 1, 2, none⟩ (.slice (some ⟨gq, 0, none⟩) (xs.length + 1) cq)).output = W7.output := rfl
        generalize W7.setCell ⟨gr + 1, 2, none⟩ (.slice (some ⟨gq, 0, none⟩) (xs.length + 1) cq) = X at *
        have hgq : gr + 2 ≤ gq := (World.ownsRow.lt ho7 gq rfl).1
        have hs67 := hg7.size
        have hmd := hMD6.size
        have hOX : OwnN X (gr + 2) (.slice (some ⟨gq, 0, none⟩) (xs.length + 1) cq) (xs ++ [⟨kdO zj, tkO zj, a5, n5, c5⟩]) := rowN_kept ho7 (fun x hx => hhX x (by
          have hx : gq = x := by simpa [Value.ownBlock] using hx
          omega))
        have hAX := (hA6.same (hg7.block ga hA6.lt (fun e => by have := olt ga e.symm; omega))).same (hhX ga hga1)
        have hIX := (hID6.same (hg7.block gr hID6.lt (fun e => by have := olt gr e.symm; omega))).same (hhX gr (by omega))
        have hMX : Moves (fun x => x = ga) (fun x => x = ga) w X := ⟨hosX.trans (hg7.os.trans hMD6.os), htaX.trans (hg7.tape.trans hMD6.tape), houX.trans (hg7.output.trans hMD6.output), by omega, fun x hx hc => (hhX x (by omega)).trans ((hg7.block x (by omega) (fun e => by have := olt x e.symm; omega)).trans (hMD6.block x hx hc)), fun _ h => .inl h⟩
        have hQ1 : Reads (fun x => (gr + 2 ≤ x ∧ (Value.slice a xs.length cap').ownBlock ≠ some x) ∧ x < W6.heap.size) W6 xs (F.ofL L) := hQD6.mono (fun x hx => ⟨hx.1, hx.lt⟩)
        have hQ2 := ((hQ1.keep (keep_grown hg7 (fun x hx hh => hh.1.1.2 hx))).keep (w' := X) (fun x hx => hhX x (by have := hx.1.1.1; omega))).mono (P' := fun x => gr + 2 ≤ x ∧ (Value.slice (some ⟨gq, 0, none⟩) (xs.length + 1) cq).ownBlock ≠ some x) (fun x hx => ⟨hx.1.1.1, fun e => by
          have e : gq = x := by simpa [Value.ownBlock] using e
          subst e
          rcases hat7 with h | h
          · exact hx.1.1.2 h
          · have := hx.1.2; omega⟩)
        have hT2 := ((hs6.keep (keep_grown hg7 (fun x hx hh => by have := olt x hx; have := hh.1.1; omega))).keep (w' := X) (fun x hx => hhX x (by have := hx.1.1; omega))).mono (P' := fun x => gr + 2 ≤ x ∧ (Value.slice (some ⟨gq, 0, none⟩) (xs.length + 1) cq).ownBlock ≠ some x) (fun x hx => ⟨by have := hx.1.1; omega, fun e => by
          have e : gq = x := by simpa [Value.ownBlock] using e
          subst e
          rcases hat7 with h | h
          · have := olt gq h; have := hx.1.1; omega
          · have := hx.1.2; omega⟩)
        have est : tO zs d j = (.cons (kdO zj) (tkO zj) (tO zs (d + 1) (j + 1)).1 (tO zs d (tO zs (d + 1) (j + 1)).2).1, (tO zs d (tO zs (d + 1) (j + 1)).2).2) := unhide hstep
        have hje := ofT_le kdO tkO odO zs (d + 1) (j + 1)
        have hjx := ofT_max kdO tkO odO zs (d + 1) (j + 1)
        change j + 1 ≤ (tO zs (d + 1) (j + 1)).2 at hje
        change (tO zs (d + 1) (j + 1)).2 ≤ _ at hjx
        have hOI : OfI zs g o m ga gr d (i + 1) (kdO z) (tkO z) w (tO zs (d + 1) (j + 1)).2 X := by
          refine ⟨by omega, hAX, ⟨some ⟨gq, 0, none⟩, cq, xs ++ [⟨kdO zj, tkO zj, a5, n5, c5⟩], L ++ [⟨kdO zj, tkO zj, (tO zs (d + 1) (j + 1)).1⟩], ?_, ?_, ?_, ?_, ?_⟩, ?_, hIX, hMX⟩
          · rw [List.length_append]; exact hnX
          · rw [List.length_append]; exact hOX
          · rw [List.length_append, ofL_app]
            exact hQ2.app ⟨rfl, rfl, hT2, trivial⟩
          · rw [← unhide hL, est, ofL_app, F.app_assoc]
            rfl
          · rw [List.length_append]; simp only [List.length_cons, List.length_nil]; omega
          · rw [← hIe, est]
        replace hOI := hide hOI
        clear hOX hAX hIX hMX hQ1 hQ2 hT2 est hQD6 hs6 hA6 hID6 hMD6 hOD6 hnX
        go_wp2
        all_goals
          go_roundg g'
          case measure => omega
          case rel => exact ⟨_, by omega, by omega, unhide hOI⟩
      · have hstop := hide (ofT_stop kdO tkO odO zs (d := d) (i := j) (by rw [hm]; exact hgo))
        have r0 := hI.res
        obtain ⟨p0, p1, p2⟩ := r0.box
        have p3 := r0.frozen 0
        have p4 := r0.frozen 1
        have p5 := r0.frozen 2
        have hF := hide (of_fin hI (unhide hstop) hgr (by omega) hnb)
        replace hI := hide hI
        replace hown := hide hown
        replace hrd := hide hrd
        replace hL := hide hL
        by_cases hd6 : d < 6
        · have hdz : (d : Int) < 6 := by omega
          by_cases hjl : j < m
          · have hjz : (j : Int) < m := by omega
            have hzj := hRr.2 j hjl
            have hod : (bits .and .i64 (zs.getD j 0) 1 == 1) = false := by
              cases hx : (bits .and .i64 (zs.getD j 0) 1 == 1)
              · rfl
              · exact absurd ⟨hd6, hjl, hx⟩ hgo
            clear hgo
            generalize zs.getD j 0 = zj at *
            go_wp2
            have hfin := unhide hF
            obtain ⟨hfb, hf1, hf2, hf3⟩ := hfin
            generalize (((wr.setCell ⟨gr, 0, none⟩ (.int .i64 (kdO z))).setCell ⟨gr, 1, none⟩ (.int .i64 (tkO z))).setCell ⟨gr, 2, none⟩ (.slice a xs.length cap')) = X at *
            obtain ⟨u0, u1, u2⟩ := hfb.box
            refine bodyPost_ret (v := .agg #[.int .i64 (kdO z), .int .i64 (tkO z), .slice a xs.length cap']) (by simp [results, Tryd.results22, go_sem, u0, u1, u2]) rfl ?_
            exact ⟨a, xs.length, cap', rfl, hgr.symm ▸ hf1, hf2, hf3⟩
          · have hjz : ¬ (j : Int) < m := by omega
            clear hgo
            go_wp2
            have hfin := unhide hF
            obtain ⟨hfb, hf1, hf2, hf3⟩ := hfin
            generalize (((wr.setCell ⟨gr, 0, none⟩ (.int .i64 (kdO z))).setCell ⟨gr, 1, none⟩ (.int .i64 (tkO z))).setCell ⟨gr, 2, none⟩ (.slice a xs.length cap')) = X at *
            obtain ⟨u0, u1, u2⟩ := hfb.box
            refine bodyPost_ret (v := .agg #[.int .i64 (kdO z), .int .i64 (tkO z), .slice a xs.length cap']) (by simp [results, Tryd.results22, go_sem, u0, u1, u2]) rfl ?_
            exact ⟨a, xs.length, cap', rfl, hgr.symm ▸ hf1, hf2, hf3⟩
        · have hdz : ¬ (d : Int) < 6 := by omega
          clear hgo
          go_wp2
          have hfin := unhide hF
          obtain ⟨hfb, hf1, hf2, hf3⟩ := hfin
          generalize (((wr.setCell ⟨gr, 0, none⟩ (.int .i64 (kdO z))).setCell ⟨gr, 1, none⟩ (.int .i64 (tkO z))).setCell ⟨gr, 2, none⟩ (.slice a xs.length cap')) = X at *
          obtain ⟨u0, u1, u2⟩ := hfb.box
          refine bodyPost_ret (v := .agg #[.int .i64 (kdO z), .int .i64 (tkO z), .slice a xs.length cap']) (by simp [results, Tryd.results22, go_sem, u0, u1, u2]) rfl ?_
          exact ⟨a, xs.length, cap', rfl, hgr.symm ▸ hf1, hf2, hf3⟩
end Go.Proofs.YthnapcdanccohaaDoor
