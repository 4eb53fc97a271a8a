/-
  2 texts in one.
-/
import Derived.Test.YtdjjbdmnjegfjaaB20
import Derived.Test.YtdjjbdmnjegfjaaB01
import Derived.Laws.OwnMore
/-
  The program's cutter.close.
-/
namespace Go.Proofs.Ytdjjbdmnjegfjaa
open Go.RowKit
set_option linter.unusedSimpArgs false
set_option maxHeartbeats 4000000 in
set_option maxRecDepth 100000 in
theorem cuClose_any (w : World) (base g : Nat) (s : ByteArray) (x : Sc) (hx : CuSt w base g s x) (hl : x.l.length ≤ 1000000) :
    Calls Try.prog 23 #[.pointer (some ⟨g, 0, none⟩)] w fun e w' => e = .returned (.tuple #[]) ∧ CuSt w' base g s x.semi ∧ Below base w w' := by
  have hx0 := hide hx
  obtain ⟨vl, vc, h0, h1, h2, h3⟩ := hx
  obtain ⟨p, line, l, c⟩ := x
  dsimp only at *
  have hg : g < w.heap.size := (Array.getElem?_eq_some_iff.1 h0).1
  rcases List.eq_nil_or_concat l with rfl | ⟨l0, t, rfl⟩
  · rw [semi_nil]
    obtain ⟨al, cl, rfl, hcl, hcm⟩ := own_shape h1
    clear h1 h2
    dsimp only [List.length_nil] at *
    obtain ⟨x0, x1, x2, x3, x4⟩ := cuCells h0
    clear h0
    go_enter Try.func23, Try.ntmps23
    go_wp2
    go_end0
    exact ⟨rfl, unhide hx0, Below.refl _ _⟩
  · obtain ⟨a1, cl, e1, hcl, hcm⟩ := own_shape h1
    rw [List.concat_eq_append] at *
    have HE := fun w => tEnds_any t w
    have hlen : (l0 ++ [t]).length = l0.length + 1 := by simp
    rw [hlen] at hcl hl e1
    obtain ⟨gl, rfl⟩ : ∃ gl, a1 = some ⟨gl, 0, none⟩ := by
      rcases h1.2 with ⟨_, hz⟩ | ⟨gl, cap, cur, e, _⟩
      · rw [hlen] at hz; omega
      · rw [e1] at e
        simp only [Value.slice.injEq] at e
        exact ⟨gl, e.1⟩
    subst e1
    obtain ⟨ac, cc, rfl, hcc, hcn⟩ := own_shape h2
    have hT : ∀ w', OwnT w' base (.slice (some ⟨gl, 0, none⟩) (l0.length + 1) cl) (l0 ++ [t]) → w'.cell? ⟨gl, l0.length * 5, none⟩ = some (.int .i64 t.k) ∧ w'.cell? ⟨gl, l0.length * 5 + 1, none⟩ = some (.string t.s) ∧ w'.cell? ⟨gl, l0.length * 5 + 2, none⟩ = some (.int .i64 t.p) ∧ w'.cell? ⟨gl, l0.length * 5 + 3, none⟩ = some (.int .i64 t.l) ∧ w'.cell? ⟨gl, l0.length * 5 + 4, none⟩ = some (.bool t.q) := fun w' h => ⟨last_tok h 0 (by omega), last_tok h 1 (by omega), last_tok h 2 (by omega), last_tok h 3 (by omega), last_tok h 4 (by omega)⟩
    have hoff := semi_off p line l0 t c
    have hon := semi_on p line l0 t c
    generalize hll : l0 ++ [t] = l at *
    generalize l0.length = m at *
    have hnc : c.length = c.length := rfl
    generalize hnc' : c.length = nc at *
    clear hnc
    have hnc := hnc'
    clear hnc' hll
    have hnl : l.length = m + 1 := hlen
    clear hlen
    simp only [Tk.val] at HE
    replace HE := hide HE
    replace hT := hide hT
    replace hoff := hide hoff
    replace hon := hide hon
    clear hx0
    obtain ⟨x0, x1, x2, x3, x4⟩ := cuCells h0
    have hT0 := unhide hT w h1
    obtain ⟨t0, t1, t2, t3, t4⟩ := hT0
    have hm1 : IntKind.i64.wrap ((m + 1 : Nat) - 1 : Int) = m := by rw [wrapI _ (by omega) (by omega)]; omega
    replace h0 := hide h0
    replace h1 := hide h1
    replace h2 := hide h2
    cases he : endB t with
    | false =>
      rw [he] at HE
      go_enter Try.func23, Try.ntmps23
      go_wp2_with fail
      refine (unhide HE _).mono ?_
      rintro e W2 ⟨rfl, hb⟩
      have hz : CuSt W2 base g s ⟨p, line, l, c⟩ := CuSt.below ⟨_, _, unhide h0, unhide h1, unhide h2, h3⟩ hb
      replace hz := hide hz
      have hbb : Below base w W2 := hb.mono (by omega)
      go_wp2
      go_end0
      exact ⟨rfl, (unhide hoff he).symm ▸ unhide hz, hbb⟩
    | true =>
      rw [he] at HE
      go_enter Try.func23, Try.ntmps23
      go_wp2_with fail
      refine (unhide HE _).mono ?_
      rintro e W0 ⟨rfl, hb⟩
      clear x0 x1 x2 x3 x4 t0 t1 t2 t3 t4 hm1
      have hw : Below base w W0 := hb.mono (by omega)
      have hk : ∀ k o, w.heap[k]? = some o → W0.heap[k]? = w.heap[k]? := fun k o hk => hb.block k (Array.getElem?_eq_some_iff.1 hk).1
      have hS := (hk _ _ (unhide h0)).trans (unhide h0)
      replace h1 : OwnT W0 base _ l := own_other (unhide h1) (fun k cur hc => hk k _ hc)
      replace h2 : OwnC W0 base _ c := own_other (unhide h2) (fun k cur hc => hk k _ hc)
      clear h0 hb hk hg
      have hg : g < W0.heap.size := (Array.getElem?_eq_some_iff.1 hS).1
      obtain ⟨nl, hnl'⟩ : ∃ nl, m + 1 = nl := ⟨_, rfl⟩
      obtain ⟨al, hal⟩ : ∃ al : Option Addr, some ⟨gl, 0, none⟩ = al := ⟨_, rfl⟩
      rw [hnl', hal] at hS h1
      rw [hnl'] at hnl hl
      replace hal := hide hal
      replace hnl' := hide hnl'
      replace hS := hide hS
      replace h1 := hide h1
      replace h2 := hide h2
      replace hw := hide hw
      go_upto_region 2 with fail
      replace hS := unhide hS
      replace h1 := unhide h1
      replace h2 := unhide h2
      replace hw := unhide hw
      refine wp_region_D (fun w' => w'.heap[g]? = some (cuObj s p line (.slice al nl cl) (.slice ac nc cc))) (fun j => [18].contains j) (by kernel_rfl) ?_
      replace hS : W0.drew.heap[g]? = some (cuObj s p line (.slice al nl cl) (.slice ac nc cc)) := hS
      replace h1 : OwnT W0.drew base (.slice al nl cl) l := h1
      replace h2 : OwnC W0.drew base (.slice ac nc cc) c := h2
      replace hw : Below base w W0.drew := hw.drew
      replace hg : g < W0.drew.heap.size := hg
      generalize World.drew W0 = W at h1 h2 hS hw hg ⊢
      refine wpAnyD_takeC (i := 0) (v := .pointer (some ⟨g, 0, none⟩)) [18] (fun _ => rfl) rfl (by kernel_rfl) 2 (by kernel_rfl) rfl (by kernel_rfl) (by kernel_rfl) (by kernel_rfl) (fun _ _ _ h => h) (Or.inl ⟨by kernel_rfl, ?_⟩) hS ?_
      · intro w hSw; go_simp
      try simp only [List.getElem_toArray, List.getElem_cons_succ, List.getElem_cons_zero, Act.put, List.setIfInBounds_toArray, List.set_cons_zero, List.set_cons_succ]
      refine wpAnyD_takeC (i := 1) (v := .pointer (some ⟨g, 0, none⟩)) [18] (fun _ => rfl) rfl (by kernel_rfl) 2 (by kernel_rfl) rfl (by kernel_rfl) (by kernel_rfl) (by kernel_rfl) (fun _ _ _ h => h) (Or.inl ⟨by kernel_rfl, ?_⟩) hS ?_
      · intro w hSw; go_simp
      try simp only [List.getElem_toArray, List.getElem_cons_succ, List.getElem_cons_zero, Act.put, List.setIfInBounds_toArray, List.set_cons_zero, List.set_cons_succ]
      refine wpAnyD_takeC (i := 2) (v := .pointer (some ⟨g, 0, none⟩)) [18] (fun _ => rfl) rfl (by kernel_rfl) 2 (by kernel_rfl) rfl (by kernel_rfl) (by kernel_rfl) (by kernel_rfl) (fun _ _ _ h => h) (Or.inl ⟨by kernel_rfl, ?_⟩) hS ?_
      · intro w hSw; go_simp
      try simp only [List.getElem_toArray, List.getElem_cons_succ, List.getElem_cons_zero, Act.put, List.setIfInBounds_toArray, List.set_cons_zero, List.set_cons_succ]
      refine wpAnyD_takeC (i := 3) (v := .pointer (some ⟨g, 3, none⟩)) [18] (fun _ => rfl) rfl (by kernel_rfl) 2 (by kernel_rfl) rfl (by kernel_rfl) (by kernel_rfl) (by kernel_rfl) (fun _ _ _ h => h) (Or.inl ⟨by kernel_rfl, ?_⟩) hS ?_
      · intro w hSw; go_simp
      try simp only [List.getElem_toArray, List.getElem_cons_succ, List.getElem_cons_zero, Act.put, List.setIfInBounds_toArray, List.set_cons_zero, List.set_cons_succ]
      refine wpAnyD_takeC (i := 4) (v := .slice al nl cl) [18] (fun _ => rfl) rfl (by kernel_rfl) 2 (by kernel_rfl) rfl (by kernel_rfl) (by kernel_rfl) (by kernel_rfl) (fun _ _ _ h => h) (Or.inl ⟨by kernel_rfl, ?_⟩) hS ?_
      · intro w hSw; obtain ⟨x0, x1, x2, x3, x4⟩ := cuCells hSw; go_simp
      try simp only [List.getElem_toArray, List.getElem_cons_succ, List.getElem_cons_zero, Act.put, List.setIfInBounds_toArray, List.set_cons_zero, List.set_cons_succ]
      refine wpAnyD_takeC (i := 5) (v := .pointer (some ⟨g, 0, none⟩)) [18] (fun _ => rfl) rfl (by kernel_rfl) 2 (by kernel_rfl) rfl (by kernel_rfl) (by kernel_rfl) (by kernel_rfl) (fun _ _ _ h => h) (Or.inl ⟨by kernel_rfl, ?_⟩) hS ?_
      · intro w hSw; go_simp
      try simp only [List.getElem_toArray, List.getElem_cons_succ, List.getElem_cons_zero, Act.put, List.setIfInBounds_toArray, List.set_cons_zero, List.set_cons_succ]
      refine wpAnyD_takeC (i := 6) (v := .pointer (some ⟨g, 0, none⟩)) [18] (fun _ => rfl) rfl (by kernel_rfl) 2 (by kernel_rfl) rfl (by kernel_rfl) (by kernel_rfl) (by kernel_rfl) (fun _ _ _ h => h) (Or.inl ⟨by kernel_rfl, ?_⟩) hS ?_
      · intro w hSw; go_simp
      try simp only [List.getElem_toArray, List.getElem_cons_succ, List.getElem_cons_zero, Act.put, List.setIfInBounds_toArray, List.set_cons_zero, List.set_cons_succ]
      refine wpAnyD_takeC (i := 7) (v := .pointer (some ⟨g, 1, none⟩)) [18] (fun _ => rfl) rfl (by kernel_rfl) 2 (by kernel_rfl) rfl (by kernel_rfl) (by kernel_rfl) (by kernel_rfl) (fun _ _ _ h => h) (Or.inl ⟨by kernel_rfl, ?_⟩) hS ?_
      · intro w hSw; go_simp
      try simp only [List.getElem_toArray, List.getElem_cons_succ, List.getElem_cons_zero, Act.put, List.setIfInBounds_toArray, List.set_cons_zero, List.set_cons_succ]
      refine wpAnyD_takeC (i := 8) (v := .int .i64 p) [18] (fun _ => rfl) rfl (by kernel_rfl) 2 (by kernel_rfl) rfl (by kernel_rfl) (by kernel_rfl) (by kernel_rfl) (fun _ _ _ h => h) (Or.inl ⟨by kernel_rfl, ?_⟩) hS ?_
      · intro w hSw; obtain ⟨x0, x1, x2, x3, x4⟩ := cuCells hSw; go_simp
      try simp only [List.getElem_toArray, List.getElem_cons_succ, List.getElem_cons_zero, Act.put, List.setIfInBounds_toArray, List.set_cons_zero, List.set_cons_succ]
      refine wpAnyD_takeC (i := 9) (v := .pointer (some ⟨g, 0, none⟩)) [18] (fun _ => rfl) rfl (by kernel_rfl) 2 (by kernel_rfl) rfl (by kernel_rfl) (by kernel_rfl) (by kernel_rfl) (fun _ _ _ h => h) (Or.inl ⟨by kernel_rfl, ?_⟩) hS ?_
      · intro w hSw; go_simp
      try simp only [List.getElem_toArray, List.getElem_cons_succ, List.getElem_cons_zero, Act.put, List.setIfInBounds_toArray, List.set_cons_zero, List.set_cons_succ]
      refine wpAnyD_takeC (i := 10) (v := .pointer (some ⟨g, 0, none⟩)) [18] (fun _ => rfl) rfl (by kernel_rfl) 2 (by kernel_rfl) rfl (by kernel_rfl) (by kernel_rfl) (by kernel_rfl) (fun _ _ _ h => h) (Or.inl ⟨by kernel_rfl, ?_⟩) hS ?_
      · intro w hSw; go_simp
      try simp only [List.getElem_toArray, List.getElem_cons_succ, List.getElem_cons_zero, Act.put, List.setIfInBounds_toArray, List.set_cons_zero, List.set_cons_succ]
      refine wpAnyD_takeC (i := 11) (v := .pointer (some ⟨g, 2, none⟩)) [18] (fun _ => rfl) rfl (by kernel_rfl) 2 (by kernel_rfl) rfl (by kernel_rfl) (by kernel_rfl) (by kernel_rfl) (fun _ _ _ h => h) (Or.inl ⟨by kernel_rfl, ?_⟩) hS ?_
      · intro w hSw; go_simp
      try simp only [List.getElem_toArray, List.getElem_cons_succ, List.getElem_cons_zero, Act.put, List.setIfInBounds_toArray, List.set_cons_zero, List.set_cons_succ]
      refine wpAnyD_takeC (i := 12) (v := .int .i64 line) [18] (fun _ => rfl) rfl (by kernel_rfl) 2 (by kernel_rfl) rfl (by kernel_rfl) (by kernel_rfl) (by kernel_rfl) (fun _ _ _ h => h) (Or.inl ⟨by kernel_rfl, ?_⟩) hS ?_
      · intro w hSw; obtain ⟨x0, x1, x2, x3, x4⟩ := cuCells hSw; go_simp
      try simp only [List.getElem_toArray, List.getElem_cons_succ, List.getElem_cons_zero, Act.put, List.setIfInBounds_toArray, List.set_cons_zero, List.set_cons_succ]
      refine wpAnyD_takeC (i := 13) (v := .agg #[.int .i64 6, .string ⟨#[59]⟩, .int .i64 p, .int .i64 line, .bool true]) [18] (fun _ => rfl) rfl (by kernel_rfl) 2 (by kernel_rfl) rfl (by kernel_rfl) (by kernel_rfl) (by kernel_rfl) (fun _ _ _ h => h) (Or.inl ⟨by kernel_rfl, ?_⟩) hS ?_
      · intro w hSw; go_simp
      try simp only [List.getElem_toArray, List.getElem_cons_succ, List.getElem_cons_zero, Act.put, List.setIfInBounds_toArray, List.set_cons_zero, List.set_cons_succ]
      replace h1 := hide h1
      replace h2 := hide h2
      replace hS := hide hS
      replace hw := hide hw
      refine wpAnyD_one (i := 14) rfl (by kernel_rfl) (fun K hK => ?_)
      replace hK := hide hK
      go_simp
      have hS2 : (W.alloc (.cells #[.int .i64 6, .string ⟨#[59]⟩, .int .i64 p, .int .i64 line, .bool true] 32)).heap[g]? = some (cuObj s p line (.slice al nl cl) (.slice ac nc cc)) := (Below.heap_alloc _ _ _ hg).trans (unhide hS)
      have h1a := own_alloc (unhide h1) (.cells #[.int .i64 6, .string ⟨#[59]⟩, .int .i64 p, .int .i64 line, .bool true] 32)
      have h2a := own_alloc (unhide h2) (.cells #[.int .i64 6, .string ⟨#[59]⟩, .int .i64 p, .int .i64 line, .bool true] 32)
      have hn := new_tok W ⟨6, ⟨#[59]⟩, p, line, true⟩ (0, 0)
      have hwa := (unhide hw).alloc (by omega) (.cells #[.int .i64 6, .string ⟨#[59]⟩, .int .i64 p, .int .i64 line, .bool true] 32)
      have hga : g < (W.alloc (.cells #[.int .i64 6, .string ⟨#[59]⟩, .int .i64 p, .int .i64 line, .bool true] 32)).heap.size := (Array.getElem?_eq_some_iff.1 hS2).1
      refine unhide hK _ _ (fun _ => hS2) ?_
      clear hK K h1 h2 hS hw
      dsimp only at hn
      generalize World.alloc W _ = W2 at *
      generalize W.heap.size = gn at *
      try simp only [List.getElem_toArray, List.getElem_cons_succ, List.getElem_cons_zero, Act.put, List.setIfInBounds_toArray, List.set_cons_zero, List.set_cons_succ]
      refine wpAnyD_one (i := 15) rfl (by kernel_rfl) (fun K hK => ?_)
      rw [if_pos (by kernel_rfl)]
      refine wp_append_tok (v := .slice al nl cl) (.tmp 25) (.tmp 35) rfl ⟨6, ⟨#[59]⟩, p, line, true⟩ rfl h1a ⟨gn, 0, none⟩ rfl hn (by omega) (by omega) ?_
      intro v' W3 hown hgrow
      obtain ⟨hst, hS3⟩ := cu_stored hS2 h1a h2a h3 hown hgrow
      have hwb : Below base w W3 := hwa.grown hgrow (by omega) (fun k hk => by
        rcases h1a.2 with ⟨e, _⟩ | ⟨g', cap, cur, e, hb, _⟩
        · rw [e] at hk; cases hk
        · rw [e] at hk
          obtain rfl : g' = k := by simpa [Value.ownBlock] using hk
          exact hb)
      obtain ⟨al', cl', hv, _, _⟩ := own_shape hown
      obtain rfl : v' = .slice al' (nl + 1) cl' := by rw [hv, List.length_append, hnl]; rfl
      clear hv
      refine hK _ _ (fun _ => hS3) ?_
      clear hK K hown hgrow h1a h2a hn hwa hS2 hga
      have hS := hS3
      clear hS3
      replace hst := hide hst
      replace hwb := hide hwb
      try simp only [List.getElem_toArray, List.getElem_cons_succ, List.getElem_cons_zero, Act.put, List.setIfInBounds_toArray, List.set_cons_zero, List.set_cons_succ]
      refine wpAnyD_takeC (i := 16) (v := .pointer (some ⟨g, 0, none⟩)) [18] (fun _ => rfl) rfl (by kernel_rfl) 2 (by kernel_rfl) rfl (by kernel_rfl) (by kernel_rfl) (by kernel_rfl) (fun _ _ _ h => h) (Or.inl ⟨by kernel_rfl, ?_⟩) hS ?_
      · intro w hSw; go_simp
      try simp only [List.getElem_toArray, List.getElem_cons_succ, List.getElem_cons_zero, Act.put, List.setIfInBounds_toArray, List.set_cons_zero, List.set_cons_succ]
      refine wpAnyD_takeC (i := 17) (v := .pointer (some ⟨g, 3, none⟩)) [18] (fun _ => rfl) rfl (by kernel_rfl) 2 (by kernel_rfl) rfl (by kernel_rfl) (by kernel_rfl) (by kernel_rfl) (fun _ _ _ h => h) (Or.inl ⟨by kernel_rfl, ?_⟩) hS ?_
      · intro w hSw; go_simp
      try simp only [List.getElem_toArray, List.getElem_cons_succ, List.getElem_cons_zero, Act.put, List.setIfInBounds_toArray, List.set_cons_zero, List.set_cons_succ]
      obtain ⟨x0, x1, x2, x3, x4⟩ := cuCells hS
      have hf := cuFrozen hS
      refine wpAnyD_one (i := 18) rfl (by kernel_rfl) (fun K hK => ?_)
      replace hK := hide hK
      go_simp
      refine unhide hK _ _ (fun h => by cases h) ?_
      clear hK K x0 x1 x2 x3 x4 hf hS
      replace hst := unhide hst
      have hwc := (unhide hwb).setCell (p := ⟨g, 3, none⟩) h3 (.slice al' (nl + 1) cl')
      clear hwb
      generalize World.setCell _ _ _ = W4 at *
      refine wpAnyD_done (by kernel_rfl) ?_ _
      replace hst := hide hst
      replace hwc := hide hwc
      go_wp2
      go_end0
      exact ⟨rfl, (unhide hon he).symm ▸ unhide hst, unhide hwc⟩
end Go.Proofs.Ytdjjbdmnjegfjaa
/-
  What begins at a place, by its first bytes; the program's cutter.step.
-/
namespace Go.Proofs.Ytdjjbdmnjegfjaa
open Go.RowKit
set_option linter.unusedSimpArgs false
set_option linter.unusedVariables false
/-- A text begins with two slashes. -/
def slaB (s : ByteArray) : Bool := decide (2 ≤ s.size ∧ byteAt s 0 = 47 ∧ byteAt s 1 = 47)
theorem sla_of (s : ByteArray) (h : 2 ≤ s.size) : ((s.extract 0 2).toList == [47, 47]) = slaB s := by
  rw [Lib.extract_toList]
  obtain ⟨⟨l⟩⟩ := s
  match l, h with
  | a :: b :: r, h =>
    have h' : 2 ≤ (⟨⟨a :: b :: r⟩⟩ : ByteArray).size := h
    show ([a, b] == [47, 47]) = decide (_ ∧ a.toNat = 47 ∧ b.toNat = 47)
    rw [Bool.eq_iff_iff]
    simp only [h', true_and, beq_iff_eq, List.cons.injEq, and_true, decide_eq_true_eq, ← UInt8.toNat_inj]
    exact Iff.rfl
set_option maxHeartbeats 400000 in
set_option maxRecDepth 100000 in
theorem slaPrefix_any (s : ByteArray) (w : World) (hs : s.size ≤ 1000000) :
    Calls Try.prog 33 #[.string s, .string ⟨#[47, 47]⟩] w fun e w' => e = .returned (.bool (slaB s)) ∧ w' = w := by
  have h1 : ∀ w, Calls Try.prog 46 #[.string s, .string ⟨#[47, 47]⟩] w fun e w' => e = .returned (.bool (slaB s)) ∧ w' = w := fun w => by
    by_cases h3 : s.size < 2
    · go_enter Try.func46, Try.ntmps46
      go_wp2
      go_ret
      refine ⟨ret_bool ?_, rfl⟩
      rw [slaB, decide_eq_false (by omega)]
    · go_enter Try.func46, Try.ntmps46
      go_wp2
      go_ret
      exact ⟨ret_bool (sla_of s (by omega)), rfl⟩
  go_enter Try.func33, Try.ntmps33
  go_wp2_with fail
  refine (h1 w).mono ?_
  rintro e W ⟨rfl, rfl⟩
  go_wp2
  go_ret
  exact ⟨rfl, rfl⟩
theorem no_sla (t : ByteArray) (h : byteAt t 0 = 47) : isOp t = false := by
  cases hb : isOp t with
  | false => rfl
  | true =>
    exfalso
    have hm := inB_mem hb
    simp only [opsB, List.mem_cons, List.not_mem_nil, or_false] at hm
    rcases hm with rfl | rfl | rfl | rfl | rfl | rfl | rfl | rfl | rfl | rfl | rfl | rfl | rfl | rfl | rfl | rfl | rfl | rfl
    all_goals exact absurd h (by decide)
theorem byteAt_sub (s : ByteArray) (a b : Nat) (ha : a < b) (hb : b ≤ s.size) : byteAt (s.extract a b) 0 = byteAt s a := by
  rw [byteAt_eq, byteAt_eq, ByteArray.data_extract, Array.getElem?_extract]
  have e : s.size = s.data.size := rfl
  rw [if_pos (by omega), Nat.add_zero]
theorem opN_sla (s : ByteArray) (p : Nat) (hp : p < s.size) (h : byteAt s p = 47) : opN s p = 0 := by
  unfold opN
  rw [no_sla (s.extract p (p + 1)) (by rw [byteAt_sub s _ _ (by omega) (by omega)]; exact h)]
  by_cases h2 : p + 2 ≤ s.size
  · rw [no_sla (s.extract p (p + 2)) (by rw [byteAt_sub s _ _ (by omega) (by omega)]; exact h), Bool.and_false]
    rfl
  · rw [decide_eq_false h2, Bool.false_and]
    rfl
/-- What begins that is no blank, no newline, no comment. -/
theorem one_mark (s : ByteArray) (x : Sc) (hp : x.p < s.size) (h1 : byteAt s x.p ≠ 32) (h2 : byteAt s x.p ≠ 9) (h3 : byteAt s x.p ≠ 10) (h4 : byteAt s x.p = 47 → x.isCom s = false) :
    x.one s = (decide (mN s x.p ≠ 0), if mN s x.p ≠ 0 then x.add s (mK s x.p) (x.p + mN s x.p) else x) := by
  have ht := toN_range (s := s) (wd := false) (a := x.p) (by omega)
  have hu := toN_range (s := s) (wd := true) (a := x.p) (by omega)
  unfold Sc.one mN mK
  rw [if_neg (by omega), if_neg h3]
  by_cases h59 : byteAt s x.p = 59
  · have hl : letB (byteAt s x.p) = false := by rw [h59]; rfl
    have hd : digB (byteAt s x.p) = false := by rw [h59]; rfl
    simp [h59, hl, hd, show letB 59 = false from rfl, show digB 59 = false from rfl]
  by_cases h47 : byteAt s x.p = 47
  · have hc := h4 h47
    have ho := opN_sla s x.p hp h47
    rw [if_neg h59, if_pos h47]
    simp [h47, hc, ho, Sc.comment, show letB 47 = false from rfl, show digB 47 = false from rfl]
  by_cases h34 : byteAt s x.p = 34
  · rw [if_neg h59, if_neg h47, if_pos h34]
    have hq := qN_ge s (x.p + 1)
    cases hb : strB s x.p with
    | false => simp [h34, hb, show letB 34 = false from rfl, show digB 34 = false from rfl]
    | true =>
      have e1 : qN s (x.p + 1) + 1 - x.p ≠ 0 := by omega
      have e2 : x.p + (qN s (x.p + 1) + 1 - x.p) = qN s (x.p + 1) + 1 := by omega
      simp [h34, hb, e1, e2, show letB 34 = false from rfl, show digB 34 = false from rfl]
  rw [if_neg h59, if_neg h47, if_neg h34, if_neg h34, if_neg h59, if_neg h34, if_neg h59]
  cases hd : digB (byteAt s x.p) with
  | true =>
    have hl : letB (byteAt s x.p) = false := by
      have := (dig_iff _).1 hd
      exact is_false (let_iff _) (by omega)
    have h5 : x.p < toN s false x.p := by
      have e1 : toN s false x.p = toN s false (x.p + 1) := toN_step hp (by rw [clsB, hd]; rfl)
      have e2 := (toN_range (s := s) (wd := false) (a := x.p + 1) (by omega)).1
      omega
    cases hb : numB s x.p with
    | false => simp [hl]
    | true =>
      have e1 : toN s false x.p - x.p ≠ 0 := by omega
      have e2 : x.p + (toN s false x.p - x.p) = toN s false x.p := by omega
      simp [hl, e1, e2]
  | false =>
    rw [if_neg (by decide)]
    cases hl : letB (byteAt s x.p) with
    | true =>
      have h5 : x.p < toN s true x.p := by
        have e1 : toN s true x.p = toN s true (x.p + 1) := toN_step hp (by rw [clsB, hl]; simp)
        have e2 := (toN_range (s := s) (wd := true) (a := x.p + 1) (by omega)).1
        omega
      rw [if_pos rfl, if_pos rfl, if_pos rfl]
      by_cases hb : toN s true x.p - x.p ≤ 24
      · have e1 : toN s true x.p - x.p ≠ 0 := by omega
        have e2 : x.p + (toN s true x.p - x.p) = toN s true x.p := by omega
        rw [if_pos hb, if_pos hb, if_pos hb, decide_eq_true hb, if_pos e1, decide_eq_true e1, e2]
      · rw [if_neg hb, if_neg hb, decide_eq_false hb, if_neg (by simp)]
        rfl
    | false =>
      simp
end Go.Proofs.Ytdjjbdmnjegfjaa
namespace Go.Proofs.Ytdjjbdmnjegfjaa
open Go.RowKit
set_option linter.unusedSimpArgs false
set_option linter.unusedVariables false
theorem note_com (s : ByteArray) (x : Sc) : x.semi.note s = x.com s := by
  obtain ⟨h1, h2, h3, _⟩ := semi_rest x
  rw [Sc.note, Sc.com, h1, h2, h3]
set_option maxHeartbeats 4000000 in
set_option maxRecDepth 100000 in
theorem cuStep_any (w : World) (base g : Nat) (s : ByteArray) (x : Sc) (hx : CuSt w base g s x) (hp : x.p < s.size) (hs : s.size ≤ 1000000) (hl : x.l.length ≤ 800000) (hcl : x.c.length ≤ 800000) (hln : x.line ≤ 1000000) :
    Calls Try.prog 22 #[.pointer (some ⟨g, 0, none⟩)] w fun e w' => e = .returned (.bool (x.one s).1) ∧ CuSt w' base g s (x.one s).2 ∧ Below base w w' := by
  have HCl := fun (w : World) (h : CuSt w base g s x) => cuClose_any w base g s x h (by omega)
  have hsr := semi_rest x
  have HCm := fun (w : World) (h : CuSt w base g s x.semi) => cuComment_any w base g s x.semi h (by omega) hs (by omega) (by rw [hsr.2.2.1]; omega)
  rw [hsr.1, note_com] at HCm
  have HWd := fun (w : World) (h : CuSt w base g s x) => cuWord_any w base g s x h hp hs (by omega)
  have HP := fun w => slaPrefix_any (s.extract x.p s.size) w (by rw [ByteArray.size_extract]; omega)
  have hsl : slaB (s.extract x.p s.size) = (decide (byteAt s x.p = 47) && x.isCom s) := by
    unfold slaB Sc.isCom
    rw [ByteArray.size_extract, Nat.min_self, byteAt_extract, byteAt_extract, Nat.add_zero, ← Bool.decide_and, ← Bool.decide_and, decide_eq_decide]
    omega
  rw [hsl] at HP
  have hm := one_mark s x hp
  have hi0 : ∀ h, ((s.extract x.p s.size)[0]'h).toNat = byteAt s x.p := fun h => by rw [byteAt_idx, byteAt_extract, Nat.add_zero]
  have hr0 : 0 < (s.extract x.p s.size).size := by rw [ByteArray.size_extract]; omega
  have hbl := byteAt_lt s x.p
  have hone : x.one s = _ := rfl
  generalize hre : s.extract x.p s.size = rest at *
  obtain ⟨vl, vc, h0, h1, h2, h3⟩ := id hx
  have hS : w.drew.heap[g]? = some (cuObj s x.p x.line vl vc) := h0
  have hw : Below base w w.drew := (Below.refl _ _).drew
  have hx1 : CuSt w.drew base g s x := hx
  replace HCl := hide HCl
  replace HCm := hide HCm
  replace HWd := hide HWd
  replace HP := hide HP
  replace hx1 := hide hx1
  replace hm := hide hm
  have hpr : ¬ s.size < x.p := by omega
  clear hx h0 h1 h2 hsl hone
  go_enter Try.func22, Try.ntmps22
  go_upto_region 1 with fail
  refine wp_region_held_drew (S := fun w' => w'.heap[g]? = some (cuObj s x.p x.line vl vc)) (by kernel_rfl) hS (fun _ => ?_)
  generalize World.drew w = W at hS hw hx1 ⊢
  refine wpAnyH_take (i := 0) (v := .pointer (some ⟨g, 0, none⟩)) rfl (by kernel_rfl) (by kernel_rfl) (by kernel_rfl) (fun _ _ _ h => h) (Or.inl ⟨by kernel_rfl, ?_⟩) hS ?_
  · intro w hSw; go_simp
  try simp only [List.getElem_toArray, List.getElem_cons_succ, List.getElem_cons_zero, Act.put, List.setIfInBounds_toArray, List.set_cons_zero, List.set_cons_succ]
  refine wpAnyH_take (i := 1) (v := .pointer (some ⟨g, 0, none⟩)) rfl (by kernel_rfl) (by kernel_rfl) (by kernel_rfl) (fun _ _ _ h => h) (Or.inl ⟨by kernel_rfl, ?_⟩) hS ?_
  · intro w hSw; go_simp
  try simp only [List.getElem_toArray, List.getElem_cons_succ, List.getElem_cons_zero, Act.put, List.setIfInBounds_toArray, List.set_cons_zero, List.set_cons_succ]
  refine wpAnyH_take (i := 2) (v := .pointer (some ⟨g, 0, none⟩)) rfl (by kernel_rfl) (by kernel_rfl) (by kernel_rfl) (fun _ _ _ h => h) (Or.inl ⟨by kernel_rfl, ?_⟩) hS ?_
  · intro w hSw; go_simp
  try simp only [List.getElem_toArray, List.getElem_cons_succ, List.getElem_cons_zero, Act.put, List.setIfInBounds_toArray, List.set_cons_zero, List.set_cons_succ]
  refine wpAnyH_take (i := 3) (v := .string s) rfl (by kernel_rfl) (by kernel_rfl) (by kernel_rfl) (fun _ _ _ h => h) (Or.inl ⟨by kernel_rfl, ?_⟩) hS ?_
  · intro w hSw; obtain ⟨x0, x1, x2, x3, x4⟩ := cuCells hSw; go_simp
  try simp only [List.getElem_toArray, List.getElem_cons_succ, List.getElem_cons_zero, Act.put, List.setIfInBounds_toArray, List.set_cons_zero, List.set_cons_succ]
  refine wpAnyH_take (i := 4) (v := .pointer (some ⟨g, 0, none⟩)) rfl (by kernel_rfl) (by kernel_rfl) (by kernel_rfl) (fun _ _ _ h => h) (Or.inl ⟨by kernel_rfl, ?_⟩) hS ?_
  · intro w hSw; go_simp
  try simp only [List.getElem_toArray, List.getElem_cons_succ, List.getElem_cons_zero, Act.put, List.setIfInBounds_toArray, List.set_cons_zero, List.set_cons_succ]
  refine wpAnyH_take (i := 5) (v := .pointer (some ⟨g, 0, none⟩)) rfl (by kernel_rfl) (by kernel_rfl) (by kernel_rfl) (fun _ _ _ h => h) (Or.inl ⟨by kernel_rfl, ?_⟩) hS ?_
  · intro w hSw; go_simp
  try simp only [List.getElem_toArray, List.getElem_cons_succ, List.getElem_cons_zero, Act.put, List.setIfInBounds_toArray, List.set_cons_zero, List.set_cons_succ]
  refine wpAnyH_take (i := 6) (v := .pointer (some ⟨g, 1, none⟩)) rfl (by kernel_rfl) (by kernel_rfl) (by kernel_rfl) (fun _ _ _ h => h) (Or.inl ⟨by kernel_rfl, ?_⟩) hS ?_
  · intro w hSw; go_simp
  try simp only [List.getElem_toArray, List.getElem_cons_succ, List.getElem_cons_zero, Act.put, List.setIfInBounds_toArray, List.set_cons_zero, List.set_cons_succ]
  refine wpAnyH_take (i := 7) (v := .int .i64 x.p) rfl (by kernel_rfl) (by kernel_rfl) (by kernel_rfl) (fun _ _ _ h => h) (Or.inl ⟨by kernel_rfl, ?_⟩) hS ?_
  · intro w hSw; obtain ⟨x0, x1, x2, x3, x4⟩ := cuCells hSw; go_simp
  try simp only [List.getElem_toArray, List.getElem_cons_succ, List.getElem_cons_zero, Act.put, List.setIfInBounds_toArray, List.set_cons_zero, List.set_cons_succ]
  refine wpAnyH_take (i := 8) (v := .string rest) rfl (by kernel_rfl) (by kernel_rfl) (by kernel_rfl) (fun _ _ _ h => h) (Or.inl ⟨by kernel_rfl, ?_⟩) hS ?_
  · intro w hSw; go_simp
  try simp only [List.getElem_toArray, List.getElem_cons_succ, List.getElem_cons_zero, Act.put, List.setIfInBounds_toArray, List.set_cons_zero, List.set_cons_succ]
  refine wpAnyH_take (i := 9) (v := .string rest) rfl (by kernel_rfl) (by kernel_rfl) (by kernel_rfl) (fun _ _ _ h => h) (Or.inl ⟨by kernel_rfl, ?_⟩) hS ?_
  · intro w hSw; go_simp
  try simp only [List.getElem_toArray, List.getElem_cons_succ, List.getElem_cons_zero, Act.put, List.setIfInBounds_toArray, List.set_cons_zero, List.set_cons_succ]
  refine wpAnyH_done (by kernel_rfl) ?_ _
  by_cases h32 : byteAt s x.p = 32 ∨ byteAt s x.p = 9
  · have e : x.one s = (true, ⟨x.p + 1, x.line, x.l, x.c⟩) := by rw [Sc.one, if_pos h32]
    have hmv := (cu_moved (unhide hx1) (x.p + 1)).1
    have hwd := hw.setCell (p := ⟨g, 1, none⟩) h3 (.int .i64 ((x.p + 1 : Nat) : Int))
    obtain ⟨x0, x1, x2, x3, x4⟩ := cuCells hS
    have hf := cuFrozen hS
    have hadd : IntKind.i64.wrap ((x.p : Int) + 1) = ((x.p + 1 : Nat) : Int) := by rw [wrapI _ (by omega) (by omega)]; omega
    generalize x.p + 1 = q at *
    replace e := hide e
    replace hmv := hide hmv
    replace hwd := hide hwd
    clear hm hS hw hx1 HCl HCm HWd HP hbl
    rcases h32 with h32 | h32
    · rw [h32] at hi0
      clear h32
      go_wp2
      go_ret
      exact ⟨by rw [unhide e]; rfl, by rw [unhide e]; exact unhide hmv, unhide hwd⟩
    · rw [h32] at hi0
      clear h32
      go_wp2
      go_ret
      exact ⟨by rw [unhide e]; rfl, by rw [unhide e]; exact unhide hmv, unhide hwd⟩
  · have n32 : ¬ ((byteAt s x.p : Nat) : Int) = 32 := by omega
    have n9 : ¬ ((byteAt s x.p : Nat) : Int) = 9 := by omega
    have m32 : (((byteAt s x.p : Nat) : Int) == 32) = false := beq_eq_false_iff_ne.2 n32
    have m9 : (((byteAt s x.p : Nat) : Int) == 9) = false := beq_eq_false_iff_ne.2 n9
    by_cases h10 : byteAt s x.p = 10
    · have e : x.one s = (true, ⟨x.p + 1, x.line + 1, x.semi.l, x.c⟩) := by rw [Sc.one, if_neg h32, if_pos h10]
      rw [h10] at hi0
      replace e := hide e
      clear hm hS HCm HWd HP hbl n32 n9 h32 h10 m32 m9
      go_wp2_with fail
      refine (unhide HCl _ (unhide hx1)).mono ?_
      rintro e W1 ⟨rfl, hst, hw1⟩
      replace hw := hw.trans hw1
      clear hw1 hx1 HCl
      obtain ⟨hr1, hr2, hr3, hr4⟩ := hsr
      have hm1 := (cu_moved hst (x.p + 1)).1
      have hm2 := (cu_moved hm1 (x.line + 1)).2
      obtain ⟨vl2, vc2, hS2, _, _, _⟩ := hst
      rw [hr1, hr2] at hS2
      obtain ⟨x0, x1, x2, x3, x4⟩ := cuCells hS2
      have hf := cuFrozen hS2
      have hS3 := Joins.block_setCell (i := 1) hS2 (.int .i64 ((x.p + 1 : Nat) : Int))
      obtain ⟨y0, y1, y2, y3, y4⟩ := cuCells (p := x.p + 1) hS3
      have hf3 := cuFrozen (p := x.p + 1) hS3
      have hwd := (hw.setCell (p := ⟨g, 1, none⟩) h3 (.int .i64 ((x.p + 1 : Nat) : Int))).setCell (p := ⟨g, 2, none⟩) h3 (.int .i64 ((x.line + 1 : Nat) : Int))
      have hadd : IntKind.i64.wrap ((x.p : Int) + 1) = ((x.p + 1 : Nat) : Int) := by rw [wrapI _ (by omega) (by omega)]; omega
      have hadl : IntKind.i64.wrap ((x.line : Int) + 1) = ((x.line + 1 : Nat) : Int) := by rw [wrapI _ (by omega) (by omega)]; omega
      clear hS2 hS3 hm1 hw
      generalize x.p + 1 = q at *
      generalize x.line + 1 = ql at *
      replace hm2 := hide hm2
      replace hwd := hide hwd
      go_wp2
      go_ret
      refine ⟨by rw [unhide e]; rfl, ?_, unhide hwd⟩
      rw [unhide e, ← hr3]
      exact unhide hm2
    · have n10 : ¬ ((byteAt s x.p : Nat) : Int) = 10 := by omega
      have m10 : (((byteAt s x.p : Nat) : Int) == 10) = false := beq_eq_false_iff_ne.2 n10
      have hm := unhide hm (by omega) (by omega) h10
      cases hc : (decide (byteAt s x.p = 47) && x.isCom s) with
      | true =>
        rw [Bool.and_eq_true, decide_eq_true_eq] at hc
        have e : x.one s = (true, x.com s) := by rw [Sc.one, if_neg h32, if_neg h10, if_neg (by omega), if_pos hc.1, hc.2, Sc.comment, if_pos hc.2]
        rw [hc.1, hc.2] at HP
        replace HP := hide (unhide HP)
        rw [hc.1] at hi0
        replace e := hide e
        generalize x.com s = y at *
        clear hm hS HWd hbl n32 n9 h32 h10 n10 m32 m9 m10 hc
        go_wp2_with fail
        refine (unhide HP _).mono ?_
        rintro e W1 ⟨rfl, rfl⟩
        go_wp2_with fail
        refine (unhide HCl _ (unhide hx1)).mono ?_
        rintro e W2 ⟨rfl, hst, hw1⟩
        replace hw := hw.trans hw1
        clear hw1 hx1 HCl
        go_wp2_with fail
        refine (unhide HCm _ hst).mono ?_
        rintro e W3 ⟨rfl, hst, hw1⟩
        replace hw := hw.trans hw1
        go_wp2
        go_ret
        refine ⟨by rw [unhide e]; rfl, ?_, hw⟩
        rw [unhide e]
        exact hst
      | false =>
        have hm := hm (fun h => by rw [h] at hc; simpa using hc)
        rw [hc] at HP
        generalize (if mN s x.p ≠ 0 then x.add s (mK s x.p) (x.p + mN s x.p) else x) = z at *
        generalize decide (mN s x.p ≠ 0) = zb at *
        replace hm := hide hm
        clear hS hbl h32 h10 hc HCl HCm
        go_wp2_with fail
        refine (unhide HP _).mono ?_
        rintro e W1 ⟨rfl, rfl⟩
        go_wp2_with fail
        refine (unhide HWd _ (unhide hx1)).mono ?_
        rintro e W2 ⟨rfl, hst, hw1⟩
        go_wp2
        go_ret
        refine ⟨by rw [unhide hm]; rfl, ?_, hw.trans hw1⟩
        rw [unhide hm]
        exact hst
end Go.Proofs.Ytdjjbdmnjegfjaa
