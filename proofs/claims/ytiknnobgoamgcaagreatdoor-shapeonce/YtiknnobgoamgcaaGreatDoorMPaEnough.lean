/-
  Enough steps: the grammar's pieces always come to an end (no program). A piece that is made has taken a word.
-/
import Derived.Test.YtiknnobgoamgcaaGreatDoorB01
namespace Go.Proofs.YtiknnobgoamgcaaGreatDoor
set_option linter.unusedVariables false
/-- Comes to an end, and what is made has taken the word here. -/
def Gd {α : Type} (L : List Tk) (i : Nat) (p : PR α) : Prop := p ≠ .out ∧ ∀ v j, p = .ok v j → i < j ∧ i < L.length
/-- Comes to an end, not ahead of where it began. -/
def Gw {α : Type} (i : Nat) (p : PR α) : Prop := p ≠ .out ∧ ∀ v j, p = .ok v j → i ≤ j
section
variable {α β : Type} {L : List Tk} {i : Nat} {p : PR α} {g : α → Nat → PR β}
theorem gd_bad (k : Nat) : Gd (α := α) L i (.bad k) := ⟨(fun h => by cases h), fun _ _ h => by cases h⟩
theorem gw_bad (k : Nat) : Gw (α := α) i (.bad k) := ⟨(fun h => by cases h), fun _ _ h => by cases h⟩
theorem gd_ok {v : α} {j : Nat} (h : i < j) (hl : i < L.length) : Gd L i (.ok v j) := ⟨(fun h => by cases h), fun _ _ e => by cases e; exact ⟨h, hl⟩⟩
theorem gw_ok {v : α} {j : Nat} (h : i ≤ j) : Gw i (.ok v j) := ⟨(fun h => by cases h), fun _ _ e => by cases e; exact h⟩
theorem Gd.gw (h : Gd L i p) : Gw i p := ⟨h.1, fun v j e => Nat.le_of_lt (h.2 v j e).1⟩
theorem Gd.up {j : Nat} (h : Gd L j p) (hij : i ≤ j) : Gd L i p := ⟨h.1, fun v k e => by have := h.2 v k e; omega⟩
theorem Gw.up {j : Nat} (h : Gw j p) (hij : i ≤ j) : Gw i p := ⟨h.1, fun v k e => by have := h.2 v k e; omega⟩
theorem Gw.gd {j : Nat} (h : Gw j p) (hij : i < j) (hl : i < L.length) : Gd L i p := ⟨h.1, fun v k e => by have := h.2 v k e; omega⟩
theorem Gd.bind (h : Gd L i p) (hg : ∀ v j, i < j → i < L.length → Gw j (g v j)) : Gd L i (p.bind g) := by
  cases p with
  | out => exact absurd rfl h.1
  | bad k => exact gd_bad k
  | ok v j =>
    obtain ⟨a, b⟩ := h.2 v j rfl
    exact (hg v j a b).gd a b
theorem Gw.bind (h : Gw i p) (hg : ∀ v j, i ≤ j → Gw j (g v j)) : Gw i (p.bind g) := by
  cases p with
  | out => exact absurd rfl h.1
  | bad k => exact gw_bad k
  | ok v j => exact (hg v j (h.2 v j rfl)).up (h.2 v j rfl)
theorem Gw.bindD (h : Gw i p) (hg : ∀ v j, i ≤ j → Gd L j (g v j)) : Gd L i (p.bind g) := by
  cases p with
  | out => exact absurd rfl h.1
  | bad k => exact gd_bad k
  | ok v j => exact (hg v j (h.2 v j rfl)).up (h.2 v j rfl)
theorem gd_want {b : Bool} {k : Nat} (h : b = true → Gd L i p) : Gd L i (wantA b k p) := by
  cases b with
  | true => exact h rfl
  | false => exact gd_bad k
theorem gw_want {b : Bool} {k : Nat} (h : b = true → Gw i p) : Gw i (wantA b k p) := by
  cases b with
  | true => exact h rfl
  | false => exact gw_bad k
theorem tkA_z (h : L.length ≤ i) : tkA L i = zTk := by simp [tkA, List.getD, h]
theorem knd_in {k : Int} (hk : k ≠ 0) (h : knd L i k = true) : i < L.length := by
  rcases Nat.lt_or_ge i L.length with h' | h'
  · exact h'
  · rw [knd, tkA_z h'] at h
    exact absurd (of_decide_eq_true h).symm hk
theorem opA_in {x : List UInt8} (h : opA L i x = true) : i < L.length := by
  simp only [opA, Bool.and_eq_true] at h
  exact knd_in (k := 4) (by decide) h.1
theorem keyA_in {x : List UInt8} (h : keyA L i x = true) : i < L.length := by
  simp only [keyA, Bool.and_eq_true] at h
  exact knd_in (k := 5) (by decide) h.1
theorem unA_in (h : unA L i = true) : i < L.length := by
  simp only [unA, Bool.and_eq_true] at h
  exact knd_in (k := 4) (by decide) h.1
theorem rkA_in (h : 0 < rkA L i) : i < L.length := by
  unfold rkA at h
  split at h
  · rename_i hk
    exact knd_in (by decide) hk
  · omega
theorem leaf_gd (kind tk : Int) (h : tk ≠ 0) : Gd L i (leafA L kind tk i) := by
  unfold leafA
  split
  · rename_i hk
    exact gd_ok (by omega) (knd_in h hk)
  · exact gd_bad i
theorem typ_gd : Gd L i (typA L i) := by
  unfold typA
  refine (leaf_gd 28 1 (by decide)).bind fun n j h1 h2 => ?_
  split
  · exact ((leaf_gd 28 1 (by decide)).bind fun m l _ _ => gw_ok (Nat.le_refl _)).gw.up (by omega)
  · exact gw_ok (Nat.le_refl _)
theorem typed_gd (kind : Int) : Gd L i (typedA L kind i) := by
  unfold typedA
  exact (leaf_gd kind 1 (by decide)).bind fun n j h1 h2 => (typ_gd.bind fun m l _ _ => gw_ok (Nat.le_refl _)).gw
theorem skF_le (L : List Tk) : ∀ (f i : Nat), i ≤ skF L f i
  | 0, i => Nat.le_refl _
  | f + 1, i => by
    unfold skF
    split
    · have := skF_le L f (i + 1); omega
    · exact Nat.le_refl _
theorem skN_le (L : List Tk) (i : Nat) : i ≤ skN L i := skF_le L _ i
end
/-- Expressions. -/
structure NE (L : List Tk) (f : Nat) : Prop where
  abs : ∀ low i d, 0 ≤ low → 12 * (L.length - i) + 6 ≤ f → Gd L i (absA L f low i d)
  lab : ∀ low l i d, 0 ≤ low → 12 * (L.length - i) + 1 ≤ f → Gw i (labA L f low l i d)
  unr : ∀ i d, 12 * (L.length - i) + 4 ≤ f → Gd L i (unrA L f i d)
  prm : ∀ i d, 12 * (L.length - i) + 3 ≤ f → Gd L i (prmA L f i d)
  lpr : ∀ x i d, 12 * (L.length - i) + 1 ≤ f → Gw i (lprA L f x i d)
  cal : ∀ x i d, i < L.length → 12 * (L.length - i) ≤ f → Gd L i (calA L f x i d)
  lst : ∀ i d, 12 * (L.length - i) + 7 ≤ f → Gd L i (lstA L f i d)
  lls : ∀ l i d, 12 * (L.length - i) + 1 ≤ f → Gd L i (llsA L f l i d)
  opd : ∀ i d, 12 * (L.length - i) + 2 ≤ f → Gd L i (opdA L f i d)
  par : ∀ i d, 12 * (L.length - i) + 1 ≤ f → Gd L i (parA L f i d)
theorem ne_all (L : List Tk) : ∀ f, NE L f
  | 0 => ⟨fun _ _ _ _ h => by omega, fun _ _ _ _ _ h => by omega, fun _ _ h => by omega, fun _ _ h => by omega, fun _ _ _ h => by omega, fun _ _ _ h' h => by omega, fun _ _ h => by omega, fun _ _ _ h => by omega, fun _ _ h => by omega, fun _ _ h => by omega⟩
  | f + 1 => by
    have ih := ne_all L f
    constructor
    · intro low i d hlow hf
      rw [absA]
      exact (ih.unr i d (by omega)).bind fun v j h1 h2 => ih.lab low v j d hlow (by omega)
    · intro low l i d hlow hf
      rw [labA]
      split
      · exact gw_ok (Nat.le_refl _)
      · rename_i hr
        have hl : i < L.length := rkA_in (by omega)
        exact ((ih.abs _ (i + 1) d (by omega) (by omega)).bind fun v j h1 h2 => ih.lab low _ j d hlow (by omega)).gw.up (by omega)
    · intro i d hf
      rw [unrA]
      split
      · rename_i hu
        have hl := unA_in hu
        split
        · exact gd_bad _
        · exact ((ih.unr (i + 1) (d + 1) (by omega)).bind fun v j h1 h2 => gw_ok (Nat.le_refl _)).up (by omega)
      · exact ih.prm i d (by omega)
    · intro i d hf
      rw [prmA]
      exact (ih.opd i d (by omega)).bind fun v j h1 h2 => ih.lpr v j d (by omega)
    · intro x i d hf
      rw [lprA]
      split
      · rename_i ho
        have hl := opA_in ho
        exact ((ih.cal x i d hl (by omega)).bind fun v j h1 h2 => ih.lpr v j d (by omega)).gw
      · split
        · rename_i ho
          have hl := opA_in ho
          exact ((leaf_gd 27 1 (by decide)).bind fun v j h1 h2 => ih.lpr _ j d (by omega)).gw.up (by omega)
        · exact gw_ok (Nat.le_refl _)
    · intro x i d hl hf
      rw [calA]
      split
      · exact gd_bad _
      · exact gd_want fun _ => ((ih.lst (i + 1) (d + 1) (by omega)).bind fun v j h1 h2 => gw_ok (Nat.le_refl _)).up (by omega)
    · intro i d hf
      rw [lstA]
      split
      · rename_i ho
        exact gd_ok (by omega) (opA_in ho)
      · exact (ih.abs 0 i d (by omega) (by omega)).bind fun v j h1 h2 => (ih.lls _ j d (by omega)).gw
    · intro l i d hf
      rw [llsA]
      split
      · rename_i ho
        have hl := opA_in ho
        exact ((ih.abs 0 (i + 1) d (by omega) (by omega)).bind fun v j h1 h2 => (ih.lls _ j d (by omega)).gw).up (by omega)
      · exact gd_want fun ho => gd_ok (by omega) (opA_in ho)
    · intro i d hf
      rw [opdA]
      split
      · rename_i h; exact gd_ok (by omega) (knd_in (by decide) h)
      · split
        · rename_i h; exact gd_ok (by omega) (knd_in (by decide) h)
        · split
          · rename_i h; exact gd_ok (by omega) (knd_in (by decide) h)
          · exact ih.par i d (by omega)
    · intro i d hf
      rw [parA]
      split
      · exact gd_bad _
      · exact gd_want fun ho => by
          have hl := opA_in ho
          exact ((ih.abs 0 (i + 1) (d + 1) (by omega) (by omega)).bind fun v j h1 h2 => gw_want fun _ => gw_ok (by omega)).up (by omega)
section
variable {L : List Tk}
theorem var_gd (f i d : Nat) (hf : 12 * (L.length - i) + 6 ≤ f) : Gd L i (varA L f i d) := by
  unfold varA
  refine (typed_gd 4).bind fun n j h1 h2 => ?_
  split
  · exact (((ne_all L f).abs 0 (j + 1) d (by omega) (by omega)).bind fun v l _ _ => gw_ok (Nat.le_refl _)).gw.up (by omega)
  · exact gw_ok (Nat.le_refl _)
theorem con_gd (f i d : Nat) (hf : 12 * (L.length - i) + 6 ≤ f) : Gd L i (conA L f i d) := by
  unfold conA
  exact (leaf_gd 5 1 (by decide)).bind fun n j h1 h2 => gw_want fun _ => (((ne_all L f).abs 0 (j + 1) d (by omega) (by omega)).bind fun v l _ _ => gw_ok (Nat.le_refl _)).gw.up (by omega)
theorem ret_gd (f i d : Nat) (hl : i < L.length) (hf : 12 * (L.length - i) + 6 ≤ f) : Gd L i (retA L f i d) := by
  unfold retA
  split
  · exact gd_ok (by omega) hl
  · exact (((ne_all L f).abs 0 (i + 1) d (by omega) (by omega)).bind fun v l _ _ => gw_ok (Nat.le_refl _)).up (by omega)
theorem jmp_gd (kind : Int) (i : Nat) (hl : i < L.length) : Gd L i (jmpA L kind i) := by
  unfold jmpA
  split
  · exact gd_ok (by omega) hl
  · exact gd_ok (by omega) hl
end
/-- Statements. -/
structure NS (L : List Tk) (f : Nat) : Prop where
  blk : ∀ i d, 20 * (L.length - i) + 1 ≤ f → Gd L i (blkA L f i d)
  brs : ∀ l i d, 20 * (L.length - i) + 10 ≤ f → Gd L i (brsA L f l i d)
  stm : ∀ i d, 20 * (L.length - i) + 9 ≤ f → Gd L i (stmA L f i d)
  cho : ∀ i d, 20 * (L.length - i) + 3 ≤ f → Gd L i (choA L f i d)
  oth : ∀ i d, 20 * (L.length - i) + 4 ≤ f → Gd L i (othA L f i d)
  gua : ∀ kind x i d, 20 * (L.length - i) + 2 ≤ f → Gd L i (guaA L f kind x i d)
  sim : ∀ i d, 20 * (L.length - i) + 8 ≤ f → Gd L i (simA L f i d)
theorem ns_all (L : List Tk) : ∀ f, NS L f
  | 0 => ⟨fun _ _ h => by omega, fun _ _ _ h => by omega, fun _ _ h => by omega, fun _ _ h => by omega, fun _ _ h => by omega, fun _ _ _ _ h => by omega, fun _ _ h => by omega⟩
  | f + 1 => by
    have ih := ns_all L f
    have ex := ne_all L f
    constructor
    · intro i d hf
      rw [blkA]
      split
      · exact gd_bad _
      · refine gd_want fun ho => ?_
        have hl := opA_in ho
        have hs := skN_le L (i + 1)
        exact ((ih.brs .nil _ (d + 1) (by omega)).bind fun v j h1 h2 => gw_ok (Nat.le_refl _)).up (by omega)
    · intro l i d hf
      rw [brsA]
      split
      · rename_i ho
        exact gd_ok (by omega) (opA_in ho)
      · refine (ih.stm i d (by omega)).bind fun v j h1 h2 => ?_
        split
        · have hs := skN_le L j
          exact (ih.brs _ _ d (by omega)).gw.up hs
        · have hs := skN_le L (j + 1)
          exact gw_want fun _ => (ih.brs _ _ d (by omega)).gw.up (by omega)
    · intro i d hf
      rw [stmA]
      split
      · rename_i h; have hl := keyA_in h
        exact (var_gd f (i + 1) d (by omega)).up (by omega)
      split
      · rename_i h; have hl := keyA_in h
        exact (con_gd f (i + 1) d (by omega)).up (by omega)
      split
      · exact ih.blk i d (by omega)
      split
      · exact ih.cho i d (by omega)
      split
      · exact ih.gua 15 kFor i d (by omega)
      split
      · rename_i h; have hl := keyA_in h
        exact ret_gd f i d hl (by omega)
      split
      · rename_i h; exact jmp_gd 17 i (keyA_in h)
      split
      · rename_i h; exact jmp_gd 18 i (keyA_in h)
      exact ih.sim i d (by omega)
    · intro i d hf
      rw [choA]
      refine (ih.gua 14 kIf i d (by omega)).bind fun v j h1 h2 => ?_
      split
      · exact ((ih.oth (j + 1) d (by omega)).bind fun v l _ _ => gw_ok (Nat.le_refl _)).gw.up (by omega)
      · exact gw_ok (Nat.le_refl _)
    · intro i d hf
      rw [othA]
      split
      · split
        · exact gd_bad _
        · exact ih.cho i (d + 1) (by omega)
      · exact ih.blk i d (by omega)
    · intro kind x i d hf
      rw [guaA]
      refine gd_want fun hk => ?_
      have hl := keyA_in hk
      exact ((ex.abs 0 (i + 1) d (by omega) (by omega)).bind fun v j h1 h2 => ((ih.blk j d (by omega)).bind fun b l _ _ => gw_ok (Nat.le_refl _)).gw).up (by omega)
    · intro i d hf
      rw [simA]
      refine (ex.abs 0 i d (by omega) (by omega)).bind fun v j h1 h2 => ?_
      split
      · exact ((ex.abs 0 (j + 1) d (by omega) (by omega)).bind fun v l _ _ => gw_ok (Nat.le_refl _)).gw.up (by omega)
      split
      · exact ((ih.gua 15 kFor (j + 1) d (by omega)).bind fun v l _ _ => gw_ok (Nat.le_refl _)).gw.up (by omega)
      split
      · exact ((ex.abs 0 (j + 1) d (by omega) (by omega)).bind fun v l _ _ => gw_ok (Nat.le_refl _)).gw.up (by omega)
      exact gw_ok (Nat.le_refl _)
section
variable {L : List Tk}
theorem fld_gd : ∀ (f : Nat) (l : F) (i : Nat), 20 * (L.length - i) + 1 ≤ f → Gd L i (fldA L f l i)
  | 0, _, _, h => by omega
  | f + 1, l, i, hf => by
    rw [fldA]
    split
    · rename_i ho
      exact gd_ok (by omega) (opA_in ho)
    · refine (typed_gd 7).bind fun v j h1 h2 => ?_
      split
      · have hs := skN_le L j
        exact (fld_gd f _ _ (by omega)).gw.up hs
      · have hs := skN_le L (j + 1)
        exact gw_want fun _ => (fld_gd f _ _ (by omega)).gw.up (by omega)
theorem prs_gd : ∀ (f : Nat) (l : F) (i : Nat), 20 * (L.length - i) + 1 ≤ f → Gd L i (prsA L f l i)
  | 0, _, _, h => by omega
  | f + 1, l, i, hf => by
    rw [prsA]
    split
    · rename_i ho
      have hl := opA_in ho
      exact ((typed_gd 9).bind fun v j h1 h2 => (prs_gd f _ j (by omega)).gw).up (by omega)
    · exact gd_want fun ho => gd_ok (by omega) (opA_in ho)
theorem pls_gd (f i : Nat) (hf : 20 * (L.length - i) + 1 ≤ f) : Gd L i (plsA L f i) := by
  unfold plsA
  split
  · rename_i ho
    exact gd_ok (by omega) (opA_in ho)
  · exact (typed_gd 9).bind fun v j h1 h2 => (prs_gd f _ j (by omega)).gw
theorem str_gd (f i : Nat) (hf : 20 * (L.length - i) + 1 ≤ f) : Gd L i (strA L f i) := by
  unfold strA
  refine (leaf_gd 6 1 (by decide)).bind fun v j h1 h2 => gw_want fun _ => gw_want fun _ => ?_
  have hs := skN_le L (j + 2)
  exact ((fld_gd f .nil _ (by omega)).bind fun v k _ _ => gw_ok (Nat.le_refl _)).gw.up (by omega)
theorem fun_gd (f i : Nat) (hf : 20 * (L.length - i) + 1 ≤ f) : Gd L i (funA L f i) := by
  unfold funA
  refine (leaf_gd 8 1 (by decide)).bind fun v j h1 h2 => gw_want fun _ => ?_
  refine ((pls_gd f (j + 1) (by omega)).bind fun l k h3 h4 => ?_).gw.up (by omega)
  refine Gw.bind (i := k) ?_ fun l' m h5 => (((ns_all L f).blk m 0 (by omega)).bind fun b o _ _ => gw_ok (Nat.le_refl _)).gw
  split
  · exact (typ_gd.bind fun t m _ _ => gw_ok (Nat.le_refl _)).gw
  · exact gw_ok (Nat.le_refl _)
theorem dec_gd (f i : Nat) (hf : 20 * (L.length - i) + 6 ≤ f) : Gd L i (decA L f i) := by
  unfold decA
  split
  · exact (var_gd f (i + 1) 0 (by omega)).up (by omega)
  split
  · exact (con_gd f (i + 1) 0 (by omega)).up (by omega)
  split
  · exact (str_gd f (i + 1) (by omega)).up (by omega)
  exact gd_want fun _ => (fun_gd f (i + 1) (by omega)).up (by omega)
theorem end_gd (i : Nat) : Gd L i (endA L i) := by
  unfold endA
  have hs := skN_le L (i + 1)
  exact gd_want fun h => gd_ok (by omega) (knd_in (by decide) h)
theorem imp_gw : ∀ (f : Nat) (l : F) (i : Nat), 20 * (L.length - i) + 1 ≤ f → Gw i (impA L f l i)
  | 0, _, _, h => by omega
  | f + 1, l, i, hf => by
    rw [impA]
    split
    · rename_i hk
      have hl := keyA_in hk
      exact ((leaf_gd 3 1 (by decide)).bind fun n j h1 h2 => ((end_gd j).bind fun _ k h3 h4 => imp_gw f _ k (by omega)).gw).gw.up (by omega)
    · exact gw_ok (Nat.le_refl _)
theorem dcs_gw : ∀ (f : Nat) (l : F) (i : Nat), 20 * (L.length - i) + 7 ≤ f → Gw i (dcsA L f l i)
  | 0, _, _, h => by omega
  | f + 1, l, i, hf => by
    rw [dcsA]
    split
    · exact gw_ok (Nat.le_refl _)
    · exact ((dec_gd f i (by omega)).bind fun n j h1 h2 => ((end_gd j).bind fun _ k h3 h4 => dcs_gw f _ k (by omega)).gw).gw
/-- A list of words comes to an end. -/
theorem fil_end (f : Nat) (hf : 20 * L.length + 7 ≤ f) : filA L f ≠ .out := by
  have h : Gw 0 (filA L f) := by
    unfold filA
    refine gw_want fun _ => ((leaf_gd 2 1 (by decide)).bind fun n j h1 h2 => ((end_gd j).bind fun _ k h3 h4 => ?_).gw).gw.up (by omega)
    exact (imp_gw f _ k (by omega)).bind fun l m h5 => (dcs_gw f l m (by omega)).bind fun l' o h6 => gw_want fun _ => gw_ok (by omega)
  exact h.1
end
end Go.Proofs.YtiknnobgoamgcaaGreatDoor
