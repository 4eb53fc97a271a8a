/-
  The reference's scanner.semi.
-/
import Derived.Test.YtmhkmmcicfpakaaScanApp
import Derived.Test.YtmhkmmcicfpakaaOrdI
import Derived.Test.YtmhkmmcicfpakaaTokRef
import Derived.Test.YtmhkmmcicfpakaaWrap
import Derived.Laws.OwnMore
import Derived.Deep.DeepCutAuto
import Derived.Deep.RegionHeld
namespace Go.Proofs.Ytmhkmmcicfpakaa
open Go.RowKit
set_option linter.unusedSimpArgs false
/-- What ends a line may make a semicolon. -/
def Sc.semi (x : Sc) : Sc := match x.l.getLast? with
  | none => x
  | some t => if endB t then ⟨x.p, x.line, x.l ++ [⟨6, ⟨#[59]⟩, x.p, x.line, true⟩], x.c⟩ else x
theorem semi_nil (p line : Nat) (c : List Cm) : Sc.semi ⟨p, line, [], c⟩ = ⟨p, line, [], c⟩ := rfl
theorem semi_off (p line : Nat) (l : List Tk) (t : Tk) (c : List Cm) (h : endB t = false) : Sc.semi ⟨p, line, l ++ [t], c⟩ = ⟨p, line, l ++ [t], c⟩ := by
  simp [Sc.semi, h]
theorem semi_on (p line : Nat) (l : List Tk) (t : Tk) (c : List Cm) (h : endB t = true) : Sc.semi ⟨p, line, l ++ [t], c⟩ = ⟨p, line, (l ++ [t]) ++ [⟨6, ⟨#[59]⟩, p, line, true⟩], c⟩ := by
  simp [Sc.semi, h]
theorem toksC_len (l : List Tk) : (toksC l).length = l.length * 5 := by
  induction l with
  | nil => rfl
  | cons t l ih => simp only [toksC, List.flatMap_cons, List.length_append, List.length_cons] at *; rw [ih]; simp only [Tk.cells, List.length_cons, List.length_nil]; omega
/-- The last token's cells. -/
theorem last_tok {w : World} {base gl cl : Nat} {l : List Tk} {t : Tk} (h : OwnT w base (.slice (some ⟨gl, 0, none⟩) (l.length + 1) cl) (l ++ [t])) (i : Nat) (hi : i < 5) : w.cell? ⟨gl, l.length * 5 + i, none⟩ = t.cells[i]? := by
  have h' : w.ownsRow base 36 5 (.slice (some ⟨gl, 0, none⟩) (l.length + 1) cl) (l.length + 1) (toksC (l ++ [t])) := by
    unfold OwnT at h
    rw [List.length_append] at h
    exact h
  rw [World.ownsRow.cellAt h' _ (by omega), toksC_snoc, List.getElem?_append_right (by rw [toksC_len]; omega), toksC_len, Nat.add_sub_cancel_left]
theorem semi_keep {w W W2 : World} {base g : Nat} {o : Obj} {vl vc : Value} {l : List Tk} {c : List Cm} (hg : g < W.heap.size) (hb : Below W.heap.size W W2) (h : W.heap[g]? = some o ∧ OwnT W base vl l ∧ OwnC W base vc c ∧ Below base w W) (h3 : base ≤ g) : W2.heap[g]? = some o ∧ OwnT W2 base vl l ∧ OwnC W2 base vc c ∧ Below base w W2 := by
  have hk : ∀ k o, W.heap[k]? = some o → W2.heap[k]? = W.heap[k]? := fun k o hk => hb.block k (Array.getElem?_eq_some_iff.1 hk).1
  exact ⟨(hb.block g hg).trans h.1, own_other h.2.1 (fun k cur hc => hk k _ hc), own_other h.2.2.1 (fun k cur hc => hk k _ hc), h.2.2.2.trans (hb.mono (by omega))⟩
set_option maxHeartbeats 4000000 in
set_option maxRecDepth 100000 in
theorem scSemi_any (w : World) (base g : Nat) (s : ByteArray) (x : Sc) (hx : ScSt w base g s x) (hl : x.l.length ≤ 1000000) :
    Calls Try.prog 24 #[.pointer (some ⟨g, 0, none⟩)] w fun e w' => e = .returned (.tuple #[]) ∧ ScSt w' base g s x.semi ∧ Below base w w' := by
  have hx0 := hide hx
  obtain ⟨vl, vc, h0, h1, h2, h3⟩ := hx
  obtain ⟨p, line, l, c⟩ := x
  dsimp only at *
  have hg : g < w.heap.size := (Array.getElem?_eq_some_iff.1 h0).1
  rcases List.eq_nil_or_concat l with rfl | ⟨l0, t, rfl⟩
  · rw [semi_nil]
    obtain ⟨al, cl, rfl, hcl, hcm⟩ := own_shape h1
    have hz : ScSt w.drew base g s ⟨p, line, [], c⟩ := unhide hx0
    replace hz := hide hz
    clear hx0 h1 h2
    dsimp only [List.length_nil] at *
    go_enter Try.func24, Try.ntmps24
    go_upto_region 0 with fail
    have hS : w.drew.heap[g]? = some (scObj s p line (.slice al 0 cl) vc) := h0
    have hw : Below base w w.drew := (Below.refl _ _).drew
    clear h0
    refine wp_region_held_drew (S := fun w' => w'.heap[g]? = some (scObj s p line (.slice al 0 cl) vc)) (by kernel_rfl) hS (fun _ => ?_)
    generalize World.drew w = W at hS hw hz ⊢
    refine wpAnyH_take (i := 0) (v := .pointer (some ⟨g, 0, none⟩)) rfl (by kernel_rfl) (by kernel_rfl) (by kernel_rfl) (fun _ _ _ h => h) (Or.inl ⟨by kernel_rfl, ?_⟩) hS ?_
    · intro w hSw; go_simp
    try simp only [List.getElem_toArray, List.getElem_cons_succ, List.getElem_cons_zero, Act.put, List.setIfInBounds_toArray, List.set_cons_zero, List.set_cons_succ]
    refine wpAnyH_take (i := 1) (v := .pointer (some ⟨g, 0, none⟩)) rfl (by kernel_rfl) (by kernel_rfl) (by kernel_rfl) (fun _ _ _ h => h) (Or.inl ⟨by kernel_rfl, ?_⟩) hS ?_
    · intro w hSw; go_simp
    try simp only [List.getElem_toArray, List.getElem_cons_succ, List.getElem_cons_zero, Act.put, List.setIfInBounds_toArray, List.set_cons_zero, List.set_cons_succ]
    refine wpAnyH_take (i := 2) (v := .pointer (some ⟨g, 3, none⟩)) rfl (by kernel_rfl) (by kernel_rfl) (by kernel_rfl) (fun _ _ _ h => h) (Or.inl ⟨by kernel_rfl, ?_⟩) hS ?_
    · intro w hSw; go_simp
    try simp only [List.getElem_toArray, List.getElem_cons_succ, List.getElem_cons_zero, Act.put, List.setIfInBounds_toArray, List.set_cons_zero, List.set_cons_succ]
    refine wpAnyH_take (i := 3) (v := .slice al 0 cl) rfl (by kernel_rfl) (by kernel_rfl) (by kernel_rfl) (fun _ _ _ h => h) (Or.inl ⟨by kernel_rfl, ?_⟩) hS ?_
    · intro w hSw; obtain ⟨x0, x1, x2, x3, x4⟩ := scCells hSw; go_simp
    try simp only [List.getElem_toArray, List.getElem_cons_succ, List.getElem_cons_zero, Act.put, List.setIfInBounds_toArray, List.set_cons_zero, List.set_cons_succ]
    refine wpAnyH_take (i := 4) (v := .int .i64 0) rfl (by kernel_rfl) (by kernel_rfl) (by kernel_rfl) (fun _ _ _ h => h) (Or.inl ⟨by kernel_rfl, ?_⟩) hS ?_
    · intro w hSw; go_simp
    try simp only [List.getElem_toArray, List.getElem_cons_succ, List.getElem_cons_zero, Act.put, List.setIfInBounds_toArray, List.set_cons_zero, List.set_cons_succ]
    refine wpAnyH_take (i := 5) (v := .bool false) rfl (by kernel_rfl) (by kernel_rfl) (by kernel_rfl) (fun _ _ _ h => h) (Or.inl ⟨by kernel_rfl, ?_⟩) hS ?_
    · intro w hSw; go_simp
    try simp only [List.getElem_toArray, List.getElem_cons_succ, List.getElem_cons_zero, Act.put, List.setIfInBounds_toArray, List.set_cons_zero, List.set_cons_succ]
    refine wpAnyH_take (i := 6) (v := .bool false) rfl (by kernel_rfl) (by kernel_rfl) (by kernel_rfl) (fun _ _ _ h => h) (Or.inl ⟨by kernel_rfl, ?_⟩) hS ?_
    · intro w hSw; go_simp
    try simp only [List.getElem_toArray, List.getElem_cons_succ, List.getElem_cons_zero, Act.put, List.setIfInBounds_toArray, List.set_cons_zero, List.set_cons_succ]
    refine wpAnyH_take (i := 7) (v := undef) rfl (by kernel_rfl) (by kernel_rfl) (by kernel_rfl) (fun _ _ _ h => h) (Or.inr ⟨by kernel_rfl, rfl⟩) hS ?_
    try simp only [List.getElem_toArray, List.getElem_cons_succ, List.getElem_cons_zero, Act.put, List.setIfInBounds_toArray, List.set_cons_zero, List.set_cons_succ]
    refine wpAnyH_take (i := 8) (v := undef) rfl (by kernel_rfl) (by kernel_rfl) (by kernel_rfl) (fun _ _ _ h => h) (Or.inr ⟨by kernel_rfl, rfl⟩) hS ?_
    try simp only [List.getElem_toArray, List.getElem_cons_succ, List.getElem_cons_zero, Act.put, List.setIfInBounds_toArray, List.set_cons_zero, List.set_cons_succ]
    refine wpAnyH_take (i := 9) (v := undef) rfl (by kernel_rfl) (by kernel_rfl) (by kernel_rfl) (fun _ _ _ h => h) (Or.inr ⟨by kernel_rfl, rfl⟩) hS ?_
    try simp only [List.getElem_toArray, List.getElem_cons_succ, List.getElem_cons_zero, Act.put, List.setIfInBounds_toArray, List.set_cons_zero, List.set_cons_succ]
    refine wpAnyH_take (i := 10) (v := undef) rfl (by kernel_rfl) (by kernel_rfl) (by kernel_rfl) (fun _ _ _ h => h) (Or.inr ⟨by kernel_rfl, rfl⟩) hS ?_
    try simp only [List.getElem_toArray, List.getElem_cons_succ, List.getElem_cons_zero, Act.put, List.setIfInBounds_toArray, List.set_cons_zero, List.set_cons_succ]
    refine wpAnyH_take (i := 11) (v := undef) rfl (by kernel_rfl) (by kernel_rfl) (by kernel_rfl) (fun _ _ _ h => h) (Or.inr ⟨by kernel_rfl, rfl⟩) hS ?_
    try simp only [List.getElem_toArray, List.getElem_cons_succ, List.getElem_cons_zero, Act.put, List.setIfInBounds_toArray, List.set_cons_zero, List.set_cons_succ]
    refine wpAnyH_take (i := 12) (v := undef) rfl (by kernel_rfl) (by kernel_rfl) (by kernel_rfl) (fun _ _ _ h => h) (Or.inr ⟨by kernel_rfl, rfl⟩) hS ?_
    try simp only [List.getElem_toArray, List.getElem_cons_succ, List.getElem_cons_zero, Act.put, List.setIfInBounds_toArray, List.set_cons_zero, List.set_cons_succ]
    refine wpAnyH_take (i := 13) (v := undef) rfl (by kernel_rfl) (by kernel_rfl) (by kernel_rfl) (fun _ _ _ h => h) (Or.inr ⟨by kernel_rfl, rfl⟩) hS ?_
    try simp only [List.getElem_toArray, List.getElem_cons_succ, List.getElem_cons_zero, Act.put, List.setIfInBounds_toArray, List.set_cons_zero, List.set_cons_succ]
    refine wpAnyH_take (i := 14) (v := undef) rfl (by kernel_rfl) (by kernel_rfl) (by kernel_rfl) (fun _ _ _ h => h) (Or.inr ⟨by kernel_rfl, rfl⟩) hS ?_
    try simp only [List.getElem_toArray, List.getElem_cons_succ, List.getElem_cons_zero, Act.put, List.setIfInBounds_toArray, List.set_cons_zero, List.set_cons_succ]
    refine wpAnyH_take (i := 15) (v := undef) rfl (by kernel_rfl) (by kernel_rfl) (by kernel_rfl) (fun _ _ _ h => h) (Or.inr ⟨by kernel_rfl, rfl⟩) hS ?_
    try simp only [List.getElem_toArray, List.getElem_cons_succ, List.getElem_cons_zero, Act.put, List.setIfInBounds_toArray, List.set_cons_zero, List.set_cons_succ]
    refine wpAnyH_take (i := 16) (v := undef) rfl (by kernel_rfl) (by kernel_rfl) (by kernel_rfl) (fun _ _ _ h => h) (Or.inr ⟨by kernel_rfl, rfl⟩) hS ?_
    try simp only [List.getElem_toArray, List.getElem_cons_succ, List.getElem_cons_zero, Act.put, List.setIfInBounds_toArray, List.set_cons_zero, List.set_cons_succ]
    refine wpAnyH_take (i := 17) (v := undef) rfl (by kernel_rfl) (by kernel_rfl) (by kernel_rfl) (fun _ _ _ h => h) (Or.inr ⟨by kernel_rfl, rfl⟩) hS ?_
    try simp only [List.getElem_toArray, List.getElem_cons_succ, List.getElem_cons_zero, Act.put, List.setIfInBounds_toArray, List.set_cons_zero, List.set_cons_succ]
    refine wpAnyH_take (i := 18) (v := undef) rfl (by kernel_rfl) (by kernel_rfl) (by kernel_rfl) (fun _ _ _ h => h) (Or.inr ⟨by kernel_rfl, rfl⟩) hS ?_
    try simp only [List.getElem_toArray, List.getElem_cons_succ, List.getElem_cons_zero, Act.put, List.setIfInBounds_toArray, List.set_cons_zero, List.set_cons_succ]
    refine wpAnyH_take (i := 19) (v := undef) rfl (by kernel_rfl) (by kernel_rfl) (by kernel_rfl) (fun _ _ _ h => h) (Or.inr ⟨by kernel_rfl, rfl⟩) hS ?_
    try simp only [List.getElem_toArray, List.getElem_cons_succ, List.getElem_cons_zero, Act.put, List.setIfInBounds_toArray, List.set_cons_zero, List.set_cons_succ]
    refine wpAnyH_take (i := 20) (v := .bool false) rfl (by kernel_rfl) (by kernel_rfl) (by kernel_rfl) (fun _ _ _ h => h) (Or.inl ⟨by kernel_rfl, ?_⟩) hS ?_
    · intro w hSw; go_simp
    try simp only [List.getElem_toArray, List.getElem_cons_succ, List.getElem_cons_zero, Act.put, List.setIfInBounds_toArray, List.set_cons_zero, List.set_cons_succ]
    refine wpAnyH_done (by kernel_rfl) ?_ _
    go_wp2
    go_end0
    exact ⟨rfl, unhide hz, hw⟩
  · obtain ⟨a1, cl, e1, hcl, hcm⟩ := own_shape h1
    rw [List.concat_eq_append] at *
    have HE := fun w => rEnds_any t w
    have hlen : (l0 ++ [t]).length = l0.length + 1 := by simp
    rw [hlen] at hcl hl e1
    obtain ⟨gl, rfl⟩ : ∃ gl, a1 = some ⟨gl, 0, none⟩ := by
      rcases h1.2 with ⟨_, hz⟩ | ⟨gl, cap, cur, e, _⟩
      · rw [hlen] at hz; omega
      · rw [e1] at e
        simp only [Value.slice.injEq] at e
        exact ⟨gl, e.1⟩
    subst e1
    obtain ⟨ac, cc, rfl, hcc, hcn⟩ := own_shape h2
    have hT : ∀ w', OwnT w' base (.slice (some ⟨gl, 0, none⟩) (l0.length + 1) cl) (l0 ++ [t]) → w'.cell? ⟨gl, l0.length * 5, none⟩ = some (.int .i64 t.k) ∧ w'.cell? ⟨gl, l0.length * 5 + 1, none⟩ = some (.string t.s) ∧ w'.cell? ⟨gl, l0.length * 5 + 2, none⟩ = some (.int .i64 t.p) ∧ w'.cell? ⟨gl, l0.length * 5 + 3, none⟩ = some (.int .i64 t.l) ∧ w'.cell? ⟨gl, l0.length * 5 + 4, none⟩ = some (.bool t.q) := fun w' h => ⟨last_tok h 0 (by omega), last_tok h 1 (by omega), last_tok h 2 (by omega), last_tok h 3 (by omega), last_tok h 4 (by omega)⟩
    have hoff := semi_off p line l0 t c
    have hon := semi_on p line l0 t c
    generalize hll : l0 ++ [t] = l at *
    generalize l0.length = m at *
    have hnc : c.length = c.length := rfl
    generalize hnc' : c.length = nc at *
    clear hnc
    have hnc := hnc'
    clear hnc' hll
    have hnl : l.length = m + 1 := hlen
    clear hlen
    simp only [Tk.val] at HE
    replace HE := hide HE
    replace hT := hide hT
    replace hoff := hide hoff
    replace hon := hide hon
    clear hx0
    go_enter Try.func24, Try.ntmps24
    go_upto_region 0 with fail
    have hS : w.drew.heap[g]? = some (scObj s p line (.slice (some ⟨gl, 0, none⟩) (m + 1) cl) (.slice ac nc cc)) ∧ OwnT w.drew base (.slice (some ⟨gl, 0, none⟩) (m + 1) cl) l ∧ OwnC w.drew base (.slice ac nc cc) c ∧ Below base w w.drew := ⟨h0, h1, h2, (Below.refl _ _).drew⟩
    replace hg : g < w.drew.heap.size := hg
    clear h0 h1 h2
    refine wp_region_held_drew (S := fun w' => w'.heap[g]? = some (scObj s p line (.slice (some ⟨gl, 0, none⟩) (m + 1) cl) (.slice ac nc cc)) ∧ OwnT w' base (.slice (some ⟨gl, 0, none⟩) (m + 1) cl) l ∧ OwnC w' base (.slice ac nc cc) c ∧ Below base w w') (by kernel_rfl) hS (fun _ => ?_)
    generalize World.drew w = W at hS hg ⊢
    refine wpAnyH_take (i := 0) (v := .pointer (some ⟨g, 0, none⟩)) rfl (by kernel_rfl) (by kernel_rfl) (by kernel_rfl) (fun _ _ _ h => h) (Or.inl ⟨by kernel_rfl, ?_⟩) hS ?_
    · intro w hSw; go_simp
    try simp only [List.getElem_toArray, List.getElem_cons_succ, List.getElem_cons_zero, Act.put, List.setIfInBounds_toArray, List.set_cons_zero, List.set_cons_succ]
    refine wpAnyH_take (i := 1) (v := .pointer (some ⟨g, 0, none⟩)) rfl (by kernel_rfl) (by kernel_rfl) (by kernel_rfl) (fun _ _ _ h => h) (Or.inl ⟨by kernel_rfl, ?_⟩) hS ?_
    · intro w hSw; go_simp
    try simp only [List.getElem_toArray, List.getElem_cons_succ, List.getElem_cons_zero, Act.put, List.setIfInBounds_toArray, List.set_cons_zero, List.set_cons_succ]
    refine wpAnyH_take (i := 2) (v := .pointer (some ⟨g, 3, none⟩)) rfl (by kernel_rfl) (by kernel_rfl) (by kernel_rfl) (fun _ _ _ h => h) (Or.inl ⟨by kernel_rfl, ?_⟩) hS ?_
    · intro w hSw; go_simp
    try simp only [List.getElem_toArray, List.getElem_cons_succ, List.getElem_cons_zero, Act.put, List.setIfInBounds_toArray, List.set_cons_zero, List.set_cons_succ]
    refine wpAnyH_take (i := 3) (v := .slice (some ⟨gl, 0, none⟩) (m + 1) cl) rfl (by kernel_rfl) (by kernel_rfl) (by kernel_rfl) (fun _ _ _ h => h) (Or.inl ⟨by kernel_rfl, ?_⟩) hS ?_
    · intro w hSw; obtain ⟨x0, x1, x2, x3, x4⟩ := scCells hSw.1; go_simp
    try simp only [List.getElem_toArray, List.getElem_cons_succ, List.getElem_cons_zero, Act.put, List.setIfInBounds_toArray, List.set_cons_zero, List.set_cons_succ]
    refine wpAnyH_take (i := 4) (v := .int .i64 (m + 1 : Nat)) rfl (by kernel_rfl) (by kernel_rfl) (by kernel_rfl) (fun _ _ _ h => h) (Or.inl ⟨by kernel_rfl, ?_⟩) hS ?_
    · intro w hSw; go_simp
    try simp only [List.getElem_toArray, List.getElem_cons_succ, List.getElem_cons_zero, Act.put, List.setIfInBounds_toArray, List.set_cons_zero, List.set_cons_succ]
    refine wpAnyH_take (i := 5) (v := .bool true) rfl (by kernel_rfl) (by kernel_rfl) (by kernel_rfl) (fun _ _ _ h => h) (Or.inl ⟨by kernel_rfl, ?_⟩) hS ?_
    · intro w hSw; go_simp
    try simp only [List.getElem_toArray, List.getElem_cons_succ, List.getElem_cons_zero, Act.put, List.setIfInBounds_toArray, List.set_cons_zero, List.set_cons_succ]
    refine wpAnyH_take (i := 6) (v := .bool true) rfl (by kernel_rfl) (by kernel_rfl) (by kernel_rfl) (fun _ _ _ h => h) (Or.inl ⟨by kernel_rfl, ?_⟩) hS ?_
    · intro w hSw; go_simp
    try simp only [List.getElem_toArray, List.getElem_cons_succ, List.getElem_cons_zero, Act.put, List.setIfInBounds_toArray, List.set_cons_zero, List.set_cons_succ]
    refine wpAnyH_take (i := 7) (v := .pointer (some ⟨g, 0, none⟩)) rfl (by kernel_rfl) (by kernel_rfl) (by kernel_rfl) (fun _ _ _ h => h) (Or.inl ⟨by kernel_rfl, ?_⟩) hS ?_
    · intro w hSw; go_simp
    try simp only [List.getElem_toArray, List.getElem_cons_succ, List.getElem_cons_zero, Act.put, List.setIfInBounds_toArray, List.set_cons_zero, List.set_cons_succ]
    refine wpAnyH_take (i := 8) (v := .pointer (some ⟨g, 0, none⟩)) rfl (by kernel_rfl) (by kernel_rfl) (by kernel_rfl) (fun _ _ _ h => h) (Or.inl ⟨by kernel_rfl, ?_⟩) hS ?_
    · intro w hSw; go_simp
    try simp only [List.getElem_toArray, List.getElem_cons_succ, List.getElem_cons_zero, Act.put, List.setIfInBounds_toArray, List.set_cons_zero, List.set_cons_succ]
    refine wpAnyH_take (i := 9) (v := .pointer (some ⟨g, 3, none⟩)) rfl (by kernel_rfl) (by kernel_rfl) (by kernel_rfl) (fun _ _ _ h => h) (Or.inl ⟨by kernel_rfl, ?_⟩) hS ?_
    · intro w hSw; go_simp
    try simp only [List.getElem_toArray, List.getElem_cons_succ, List.getElem_cons_zero, Act.put, List.setIfInBounds_toArray, List.set_cons_zero, List.set_cons_succ]
    refine wpAnyH_take (i := 10) (v := .slice (some ⟨gl, 0, none⟩) (m + 1) cl) rfl (by kernel_rfl) (by kernel_rfl) (by kernel_rfl) (fun _ _ _ h => h) (Or.inl ⟨by kernel_rfl, ?_⟩) hS ?_
    · intro w hSw; obtain ⟨x0, x1, x2, x3, x4⟩ := scCells hSw.1; go_simp
    try simp only [List.getElem_toArray, List.getElem_cons_succ, List.getElem_cons_zero, Act.put, List.setIfInBounds_toArray, List.set_cons_zero, List.set_cons_succ]
    refine wpAnyH_take (i := 11) (v := .pointer (some ⟨g, 0, none⟩)) rfl (by kernel_rfl) (by kernel_rfl) (by kernel_rfl) (fun _ _ _ h => h) (Or.inl ⟨by kernel_rfl, ?_⟩) hS ?_
    · intro w hSw; go_simp
    try simp only [List.getElem_toArray, List.getElem_cons_succ, List.getElem_cons_zero, Act.put, List.setIfInBounds_toArray, List.set_cons_zero, List.set_cons_succ]
    refine wpAnyH_take (i := 12) (v := .pointer (some ⟨g, 0, none⟩)) rfl (by kernel_rfl) (by kernel_rfl) (by kernel_rfl) (fun _ _ _ h => h) (Or.inl ⟨by kernel_rfl, ?_⟩) hS ?_
    · intro w hSw; go_simp
    try simp only [List.getElem_toArray, List.getElem_cons_succ, List.getElem_cons_zero, Act.put, List.setIfInBounds_toArray, List.set_cons_zero, List.set_cons_succ]
    refine wpAnyH_take (i := 13) (v := .pointer (some ⟨g, 3, none⟩)) rfl (by kernel_rfl) (by kernel_rfl) (by kernel_rfl) (fun _ _ _ h => h) (Or.inl ⟨by kernel_rfl, ?_⟩) hS ?_
    · intro w hSw; go_simp
    try simp only [List.getElem_toArray, List.getElem_cons_succ, List.getElem_cons_zero, Act.put, List.setIfInBounds_toArray, List.set_cons_zero, List.set_cons_succ]
    refine wpAnyH_take (i := 14) (v := .slice (some ⟨gl, 0, none⟩) (m + 1) cl) rfl (by kernel_rfl) (by kernel_rfl) (by kernel_rfl) (fun _ _ _ h => h) (Or.inl ⟨by kernel_rfl, ?_⟩) hS ?_
    · intro w hSw; obtain ⟨x0, x1, x2, x3, x4⟩ := scCells hSw.1; go_simp
    try simp only [List.getElem_toArray, List.getElem_cons_succ, List.getElem_cons_zero, Act.put, List.setIfInBounds_toArray, List.set_cons_zero, List.set_cons_succ]
    refine wpAnyH_take (i := 15) (v := .int .i64 (m + 1 : Nat)) rfl (by kernel_rfl) (by kernel_rfl) (by kernel_rfl) (fun _ _ _ h => h) (Or.inl ⟨by kernel_rfl, ?_⟩) hS ?_
    · intro w hSw; go_simp
    try simp only [List.getElem_toArray, List.getElem_cons_succ, List.getElem_cons_zero, Act.put, List.setIfInBounds_toArray, List.set_cons_zero, List.set_cons_succ]
    refine wpAnyH_take (i := 16) (v := .int .i64 m) rfl (by kernel_rfl) (by kernel_rfl) (by kernel_rfl) (fun _ _ _ h => h) (Or.inl ⟨by kernel_rfl, ?_⟩) hS ?_
    · intro w hSw; go_simp; exact wrapI _ (by omega) (by omega)
    try simp only [List.getElem_toArray, List.getElem_cons_succ, List.getElem_cons_zero, Act.put, List.setIfInBounds_toArray, List.set_cons_zero, List.set_cons_succ]
    refine wpAnyH_take (i := 17) (v := .pointer (some ⟨gl, m * 5, none⟩)) rfl (by kernel_rfl) (by kernel_rfl) (by kernel_rfl) (fun _ _ _ h => h) (Or.inl ⟨by kernel_rfl, ?_⟩) hS ?_
    · intro w hSw; go_simp; intro h; exfalso; omega
    try simp only [List.getElem_toArray, List.getElem_cons_succ, List.getElem_cons_zero, Act.put, List.setIfInBounds_toArray, List.set_cons_zero, List.set_cons_succ]
    refine wpAnyH_take (i := 18) (v := .agg #[.int .i64 t.k, .string t.s, .int .i64 t.p, .int .i64 t.l, .bool t.q]) rfl (by kernel_rfl) (by kernel_rfl) (by kernel_rfl) (fun _ _ _ h => h) (Or.inl ⟨by kernel_rfl, ?_⟩) hS ?_
    · intro w hSw; obtain ⟨t0, t1, t2, t3, t4⟩ := unhide hT _ hSw.2.1; go_simp
    try simp only [List.getElem_toArray, List.getElem_cons_succ, List.getElem_cons_zero, Act.put, List.setIfInBounds_toArray, List.set_cons_zero, List.set_cons_succ]
    cases he : endB t with
    | false =>
      rw [he] at HE
      refine wpAnyH_ready (rs := [19]) (by kernel_rfl) (by simp) ?_
      refine AllReadyH.cons rfl (fun K hK => ?_) AllReadyH.nil
      go_simp
      refine (unhide HE _).mono ?_
      rintro e W2 ⟨rfl, hb⟩
      have hS2 := semi_keep hg hb hS h3
      refine hK.out _ _ hS2 (fun _ => ?_)
      clear hK K
      try simp only [List.getElem_toArray, List.getElem_cons_succ, List.getElem_cons_zero, Act.put, List.setIfInBounds_toArray, List.set_cons_zero, List.set_cons_succ]
      refine wpAnyH_take (i := 20) (v := .bool false) rfl (by kernel_rfl) (by kernel_rfl) (by kernel_rfl) (fun _ _ _ h => h) (Or.inl ⟨by kernel_rfl, ?_⟩) hS2 ?_
      · intro w hSw; go_simp
      try simp only [List.getElem_toArray, List.getElem_cons_succ, List.getElem_cons_zero, Act.put, List.setIfInBounds_toArray, List.set_cons_zero, List.set_cons_succ]
      refine wpAnyH_done (by kernel_rfl) ?_ _
      have hz : ScSt W2 base g s ⟨p, line, l, c⟩ := ⟨_, _, hS2.1, hS2.2.1, hS2.2.2.1, h3⟩
      replace hz := hide hz
      replace hS2 := hide hS2
      clear hS
      go_wp2
      go_end0
      exact ⟨rfl, (unhide hoff he).symm ▸ unhide hz, (unhide hS2).2.2.2⟩
    | true =>
      rw [he] at HE
      refine wpAnyH_ready (rs := [19]) (by kernel_rfl) (by simp) ?_
      refine AllReadyH.cons rfl (fun K hK => ?_) AllReadyH.nil
      go_simp
      refine (unhide HE _).mono ?_
      rintro e W0 ⟨rfl, hb⟩
      have hS2 := semi_keep hg hb hS h3
      refine hK.out _ _ hS2 (fun _ => ?_)
      clear hK K
      try simp only [List.getElem_toArray, List.getElem_cons_succ, List.getElem_cons_zero, Act.put, List.setIfInBounds_toArray, List.set_cons_zero, List.set_cons_succ]
      refine wpAnyH_take (i := 20) (v := .bool true) rfl (by kernel_rfl) (by kernel_rfl) (by kernel_rfl) (fun _ _ _ h => h) (Or.inl ⟨by kernel_rfl, ?_⟩) hS2 ?_
      · intro w hSw; go_simp
      try simp only [List.getElem_toArray, List.getElem_cons_succ, List.getElem_cons_zero, Act.put, List.setIfInBounds_toArray, List.set_cons_zero, List.set_cons_succ]
      refine wpAnyH_done (by kernel_rfl) ?_ _
      clear hS hg hb
      obtain ⟨hS, h1, h2, hw⟩ := hS2
      have hg : g < W0.heap.size := (Array.getElem?_eq_some_iff.1 hS).1
      obtain ⟨nl, hnl'⟩ : ∃ nl, m + 1 = nl := ⟨_, rfl⟩
      obtain ⟨al, hal⟩ : ∃ al : Option Addr, some ⟨gl, 0, none⟩ = al := ⟨_, rfl⟩
      rw [hnl', hal] at hS h1
      rw [hnl'] at hnl hl
      replace hal := hide hal
      replace hnl' := hide hnl'
      go_upto_region 1 with fail
      refine wp_region_D (fun w' => w'.heap[g]? = some (scObj s p line (.slice al nl cl) (.slice ac nc cc))) (fun j => [18].contains j) (by kernel_rfl) ?_
      replace hS : W0.drew.heap[g]? = some (scObj s p line (.slice al nl cl) (.slice ac nc cc)) := hS
      replace h1 : OwnT W0.drew base (.slice al nl cl) l := h1
      replace h2 : OwnC W0.drew base (.slice ac nc cc) c := h2
      replace hw : Below base w W0.drew := hw.drew
      replace hg : g < W0.drew.heap.size := hg
      generalize World.drew W0 = W at h1 h2 hS hw hg ⊢
      refine wpAnyD_takeC (i := 0) (v := .pointer (some ⟨g, 0, none⟩)) [18] (fun _ => rfl) rfl (by kernel_rfl) 2 (by kernel_rfl) rfl (by kernel_rfl) (by kernel_rfl) (by kernel_rfl) (fun _ _ _ h => h) (Or.inl ⟨by kernel_rfl, ?_⟩) hS ?_
      · intro w hSw; go_simp
      try simp only [List.getElem_toArray, List.getElem_cons_succ, List.getElem_cons_zero, Act.put, List.setIfInBounds_toArray, List.set_cons_zero, List.set_cons_succ]
      refine wpAnyD_takeC (i := 1) (v := .pointer (some ⟨g, 0, none⟩)) [18] (fun _ => rfl) rfl (by kernel_rfl) 2 (by kernel_rfl) rfl (by kernel_rfl) (by kernel_rfl) (by kernel_rfl) (fun _ _ _ h => h) (Or.inl ⟨by kernel_rfl, ?_⟩) hS ?_
      · intro w hSw; go_simp
      try simp only [List.getElem_toArray, List.getElem_cons_succ, List.getElem_cons_zero, Act.put, List.setIfInBounds_toArray, List.set_cons_zero, List.set_cons_succ]
      refine wpAnyD_takeC (i := 2) (v := .pointer (some ⟨g, 0, none⟩)) [18] (fun _ => rfl) rfl (by kernel_rfl) 2 (by kernel_rfl) rfl (by kernel_rfl) (by kernel_rfl) (by kernel_rfl) (fun _ _ _ h => h) (Or.inl ⟨by kernel_rfl, ?_⟩) hS ?_
      · intro w hSw; go_simp
      try simp only [List.getElem_toArray, List.getElem_cons_succ, List.getElem_cons_zero, Act.put, List.setIfInBounds_toArray, List.set_cons_zero, List.set_cons_succ]
      refine wpAnyD_takeC (i := 3) (v := .pointer (some ⟨g, 3, none⟩)) [18] (fun _ => rfl) rfl (by kernel_rfl) 2 (by kernel_rfl) rfl (by kernel_rfl) (by kernel_rfl) (by kernel_rfl) (fun _ _ _ h => h) (Or.inl ⟨by kernel_rfl, ?_⟩) hS ?_
      · intro w hSw; go_simp
      try simp only [List.getElem_toArray, List.getElem_cons_succ, List.getElem_cons_zero, Act.put, List.setIfInBounds_toArray, List.set_cons_zero, List.set_cons_succ]
      refine wpAnyD_takeC (i := 4) (v := .slice al nl cl) [18] (fun _ => rfl) rfl (by kernel_rfl) 2 (by kernel_rfl) rfl (by kernel_rfl) (by kernel_rfl) (by kernel_rfl) (fun _ _ _ h => h) (Or.inl ⟨by kernel_rfl, ?_⟩) hS ?_
      · intro w hSw; obtain ⟨x0, x1, x2, x3, x4⟩ := scCells hSw; go_simp
      try simp only [List.getElem_toArray, List.getElem_cons_succ, List.getElem_cons_zero, Act.put, List.setIfInBounds_toArray, List.set_cons_zero, List.set_cons_succ]
      refine wpAnyD_takeC (i := 5) (v := .pointer (some ⟨g, 0, none⟩)) [18] (fun _ => rfl) rfl (by kernel_rfl) 2 (by kernel_rfl) rfl (by kernel_rfl) (by kernel_rfl) (by kernel_rfl) (fun _ _ _ h => h) (Or.inl ⟨by kernel_rfl, ?_⟩) hS ?_
      · intro w hSw; go_simp
      try simp only [List.getElem_toArray, List.getElem_cons_succ, List.getElem_cons_zero, Act.put, List.setIfInBounds_toArray, List.set_cons_zero, List.set_cons_succ]
      refine wpAnyD_takeC (i := 6) (v := .pointer (some ⟨g, 0, none⟩)) [18] (fun _ => rfl) rfl (by kernel_rfl) 2 (by kernel_rfl) rfl (by kernel_rfl) (by kernel_rfl) (by kernel_rfl) (fun _ _ _ h => h) (Or.inl ⟨by kernel_rfl, ?_⟩) hS ?_
      · intro w hSw; go_simp
      try simp only [List.getElem_toArray, List.getElem_cons_succ, List.getElem_cons_zero, Act.put, List.setIfInBounds_toArray, List.set_cons_zero, List.set_cons_succ]
      refine wpAnyD_takeC (i := 7) (v := .pointer (some ⟨g, 1, none⟩)) [18] (fun _ => rfl) rfl (by kernel_rfl) 2 (by kernel_rfl) rfl (by kernel_rfl) (by kernel_rfl) (by kernel_rfl) (fun _ _ _ h => h) (Or.inl ⟨by kernel_rfl, ?_⟩) hS ?_
      · intro w hSw; go_simp
      try simp only [List.getElem_toArray, List.getElem_cons_succ, List.getElem_cons_zero, Act.put, List.setIfInBounds_toArray, List.set_cons_zero, List.set_cons_succ]
      refine wpAnyD_takeC (i := 8) (v := .int .i64 p) [18] (fun _ => rfl) rfl (by kernel_rfl) 2 (by kernel_rfl) rfl (by kernel_rfl) (by kernel_rfl) (by kernel_rfl) (fun _ _ _ h => h) (Or.inl ⟨by kernel_rfl, ?_⟩) hS ?_
      · intro w hSw; obtain ⟨x0, x1, x2, x3, x4⟩ := scCells hSw; go_simp
      try simp only [List.getElem_toArray, List.getElem_cons_succ, List.getElem_cons_zero, Act.put, List.setIfInBounds_toArray, List.set_cons_zero, List.set_cons_succ]
      refine wpAnyD_takeC (i := 9) (v := .pointer (some ⟨g, 0, none⟩)) [18] (fun _ => rfl) rfl (by kernel_rfl) 2 (by kernel_rfl) rfl (by kernel_rfl) (by kernel_rfl) (by kernel_rfl) (fun _ _ _ h => h) (Or.inl ⟨by kernel_rfl, ?_⟩) hS ?_
      · intro w hSw; go_simp
      try simp only [List.getElem_toArray, List.getElem_cons_succ, List.getElem_cons_zero, Act.put, List.setIfInBounds_toArray, List.set_cons_zero, List.set_cons_succ]
      refine wpAnyD_takeC (i := 10) (v := .pointer (some ⟨g, 0, none⟩)) [18] (fun _ => rfl) rfl (by kernel_rfl) 2 (by kernel_rfl) rfl (by kernel_rfl) (by kernel_rfl) (by kernel_rfl) (fun _ _ _ h => h) (Or.inl ⟨by kernel_rfl, ?_⟩) hS ?_
      · intro w hSw; go_simp
      try simp only [List.getElem_toArray, List.getElem_cons_succ, List.getElem_cons_zero, Act.put, List.setIfInBounds_toArray, List.set_cons_zero, List.set_cons_succ]
      refine wpAnyD_takeC (i := 11) (v := .pointer (some ⟨g, 2, none⟩)) [18] (fun _ => rfl) rfl (by kernel_rfl) 2 (by kernel_rfl) rfl (by kernel_rfl) (by kernel_rfl) (by kernel_rfl) (fun _ _ _ h => h) (Or.inl ⟨by kernel_rfl, ?_⟩) hS ?_
      · intro w hSw; go_simp
      try simp only [List.getElem_toArray, List.getElem_cons_succ, List.getElem_cons_zero, Act.put, List.setIfInBounds_toArray, List.set_cons_zero, List.set_cons_succ]
      refine wpAnyD_takeC (i := 12) (v := .int .i64 line) [18] (fun _ => rfl) rfl (by kernel_rfl) 2 (by kernel_rfl) rfl (by kernel_rfl) (by kernel_rfl) (by kernel_rfl) (fun _ _ _ h => h) (Or.inl ⟨by kernel_rfl, ?_⟩) hS ?_
      · intro w hSw; obtain ⟨x0, x1, x2, x3, x4⟩ := scCells hSw; go_simp
      try simp only [List.getElem_toArray, List.getElem_cons_succ, List.getElem_cons_zero, Act.put, List.setIfInBounds_toArray, List.set_cons_zero, List.set_cons_succ]
      refine wpAnyD_takeC (i := 13) (v := .agg #[.int .i64 6, .string ⟨#[59]⟩, .int .i64 p, .int .i64 line, .bool true]) [18] (fun _ => rfl) rfl (by kernel_rfl) 2 (by kernel_rfl) rfl (by kernel_rfl) (by kernel_rfl) (by kernel_rfl) (fun _ _ _ h => h) (Or.inl ⟨by kernel_rfl, ?_⟩) hS ?_
      · intro w hSw; go_simp
      try simp only [List.getElem_toArray, List.getElem_cons_succ, List.getElem_cons_zero, Act.put, List.setIfInBounds_toArray, List.set_cons_zero, List.set_cons_succ]
      replace h1 := hide h1
      replace h2 := hide h2
      replace hS := hide hS
      replace hw := hide hw
      refine wpAnyD_one (i := 14) rfl (by kernel_rfl) (fun K hK => ?_)
      replace hK := hide hK
      go_simp
      have hS2 : (W.alloc (.cells #[.int .i64 6, .string ⟨#[59]⟩, .int .i64 p, .int .i64 line, .bool true] 36)).heap[g]? = some (scObj s p line (.slice al nl cl) (.slice ac nc cc)) := (Below.heap_alloc _ _ _ hg).trans (unhide hS)
      have h1a := own_alloc (unhide h1) (.cells #[.int .i64 6, .string ⟨#[59]⟩, .int .i64 p, .int .i64 line, .bool true] 36)
      have h2a := own_alloc (unhide h2) (.cells #[.int .i64 6, .string ⟨#[59]⟩, .int .i64 p, .int .i64 line, .bool true] 36)
      have hn := new_tok W ⟨6, ⟨#[59]⟩, p, line, true⟩ (0, 0)
      have hwa := (unhide hw).alloc (by omega) (.cells #[.int .i64 6, .string ⟨#[59]⟩, .int .i64 p, .int .i64 line, .bool true] 36)
      have hga : g < (W.alloc (.cells #[.int .i64 6, .string ⟨#[59]⟩, .int .i64 p, .int .i64 line, .bool true] 36)).heap.size := (Array.getElem?_eq_some_iff.1 hS2).1
      refine unhide hK _ _ (fun _ => hS2) ?_
      clear hK K h1 h2 hS hw
      dsimp only at hn
      generalize World.alloc W _ = W2 at *
      generalize W.heap.size = gn at *
      try simp only [List.getElem_toArray, List.getElem_cons_succ, List.getElem_cons_zero, Act.put, List.setIfInBounds_toArray, List.set_cons_zero, List.set_cons_succ]
      refine wpAnyD_one (i := 15) rfl (by kernel_rfl) (fun K hK => ?_)
      rw [if_pos (by kernel_rfl)]
      refine wp_append_tok (v := .slice al nl cl) (.tmp 27) (.tmp 37) rfl ⟨6, ⟨#[59]⟩, p, line, true⟩ rfl h1a ⟨gn, 0, none⟩ rfl hn (by omega) (by omega) ?_
      intro v' W3 hown hgrow
      obtain ⟨hst, hS3⟩ := sc_stored hS2 h1a h2a h3 hown hgrow
      have hwb : Below base w W3 := hwa.grown hgrow (by omega) (fun k hk => by
        rcases h1a.2 with ⟨e, _⟩ | ⟨g', cap, cur, e, hb, _⟩
        · rw [e] at hk; cases hk
        · rw [e] at hk
          obtain rfl : g' = k := by simpa [Value.ownBlock] using hk
          exact hb)
      obtain ⟨al', cl', hv, _, _⟩ := own_shape hown
      obtain rfl : v' = .slice al' (nl + 1) cl' := by rw [hv, List.length_append, hnl]; rfl
      clear hv
      refine hK _ _ (fun _ => hS3) ?_
      clear hK K hown hgrow h1a h2a hn hwa hS2 hga
      have hS := hS3
      clear hS3
      replace hst := hide hst
      replace hwb := hide hwb
      try simp only [List.getElem_toArray, List.getElem_cons_succ, List.getElem_cons_zero, Act.put, List.setIfInBounds_toArray, List.set_cons_zero, List.set_cons_succ]
      refine wpAnyD_takeC (i := 16) (v := .pointer (some ⟨g, 0, none⟩)) [18] (fun _ => rfl) rfl (by kernel_rfl) 2 (by kernel_rfl) rfl (by kernel_rfl) (by kernel_rfl) (by kernel_rfl) (fun _ _ _ h => h) (Or.inl ⟨by kernel_rfl, ?_⟩) hS ?_
      · intro w hSw; go_simp
      try simp only [List.getElem_toArray, List.getElem_cons_succ, List.getElem_cons_zero, Act.put, List.setIfInBounds_toArray, List.set_cons_zero, List.set_cons_succ]
      refine wpAnyD_takeC (i := 17) (v := .pointer (some ⟨g, 3, none⟩)) [18] (fun _ => rfl) rfl (by kernel_rfl) 2 (by kernel_rfl) rfl (by kernel_rfl) (by kernel_rfl) (by kernel_rfl) (fun _ _ _ h => h) (Or.inl ⟨by kernel_rfl, ?_⟩) hS ?_
      · intro w hSw; go_simp
      try simp only [List.getElem_toArray, List.getElem_cons_succ, List.getElem_cons_zero, Act.put, List.setIfInBounds_toArray, List.set_cons_zero, List.set_cons_succ]
      obtain ⟨x0, x1, x2, x3, x4⟩ := scCells hS
      have hf := scFrozen hS
      refine wpAnyD_one (i := 18) rfl (by kernel_rfl) (fun K hK => ?_)
      replace hK := hide hK
      go_simp
      refine unhide hK _ _ (fun h => by cases h) ?_
      clear hK K x0 x1 x2 x3 x4 hf hS
      replace hst := unhide hst
      have hwc := (unhide hwb).setCell (p := ⟨g, 3, none⟩) h3 (.slice al' (nl + 1) cl')
      clear hwb
      generalize World.setCell _ _ _ = W4 at *
      refine wpAnyD_done (by kernel_rfl) ?_ _
      replace hst := hide hst
      replace hwc := hide hwc
      go_wp2
      go_end0
      exact ⟨rfl, (unhide hon he).symm ▸ unhide hst, unhide hwc⟩
end Go.Proofs.Ytmhkmmcicfpakaa
