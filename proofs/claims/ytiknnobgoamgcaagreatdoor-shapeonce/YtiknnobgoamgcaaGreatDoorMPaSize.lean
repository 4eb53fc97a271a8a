/-
  How great a tree is: at most two nodes a word (no program).
-/
import Derived.Test.YtiknnobgoamgcaaGreatDoorMPaEnough
namespace Go.Proofs.YtiknnobgoamgcaaGreatDoor
set_option linter.unusedVariables false
set_option linter.unusedSimpArgs false
/-- A piece of the grammar is as small as its words let it be: by one less, or not. -/
def Szd (i : Nat) (p : PR Nd) : Prop := ∀ v j, p = .ok v j → v.c.size + 2 + 2 * i ≤ 2 * j
def Szw (i : Nat) (p : PR Nd) : Prop := ∀ v j, p = .ok v j → v.c.size + 1 + 2 * i ≤ 2 * j
def Szl (s i : Nat) (p : PR Nd) : Prop := ∀ v j, p = .ok v j → v.c.size + 2 * i ≤ s + 2 * j
def Szf (s i : Nat) (p : PR F) : Prop := ∀ v j, p = .ok v j → v.size + 2 * i ≤ s + 2 * j
theorem Szd.sw {i : Nat} {p : PR Nd} (h : Szd i p) : Szw i p := fun v j e => by have := h v j e; omega
theorem bind_ok {α β : Type} {p : PR α} {g : α → Nat → PR β} {v : β} {j : Nat} (h : p.bind g = .ok v j) : ∃ u k, p = .ok u k ∧ g u k = .ok v j := by
  cases p with
  | out => cases h
  | bad k => cases h
  | ok u k => exact ⟨u, k, rfl, h⟩
theorem want_ok {α : Type} {b : Bool} {k : Nat} {p : PR α} {v : α} {j : Nat} (h : wantA b k p = .ok v j) : b = true ∧ p = .ok v j := by
  cases b with
  | false => cases h
  | true => exact ⟨rfl, h⟩
theorem size_app : ∀ a b : F, (a.app b).size = a.size + b.size
  | .nil, b => by simp [F.app, F.size]
  | .cons k t c r, b => by simp only [F.app, F.size, size_app r b]; omega
theorem size_one (n : Nd) : (one n).size = 1 + n.c.size := by simp only [one, F.size]; omega
theorem size_snoc (l : F) (n : Nd) : (snoc l n).size = l.size + 1 + n.c.size := by rw [snoc, size_app, size_one]; omega
theorem ok_inj {α : Type} {v v' : α} {j j' : Nat} (h : (PR.ok v j : PR α) = .ok v' j') : v = v' ∧ j = j' := by injection h with a b; exact ⟨a, b⟩
theorem leaf_sz (L : List Tk) (k t : Int) (i : Nat) : Szd i (leafA L k t i) := fun v j h => by
  unfold leafA at h
  split at h
  · obtain ⟨rfl, rfl⟩ := ok_inj h
    simp only [F.size]; omega
  · cases h
theorem leaf_pos {L : List Tk} {k t : Int} {i : Nat} {v : Nd} {j : Nat} (h : leafA L k t i = .ok v j) : v.c = .nil ∧ j = i + 1 := by
  unfold leafA at h
  split at h
  · obtain ⟨rfl, rfl⟩ := ok_inj h
    exact ⟨rfl, rfl⟩
  · cases h
theorem typ_sz (L : List Tk) (i : Nat) : Szd i (typA L i) := fun v j h => by
  unfold typA at h
  obtain ⟨n, k, h1, h2⟩ := bind_ok h
  obtain ⟨e1, rfl⟩ := leaf_pos h1
  split at h2
  · obtain ⟨m, l, h3, h4⟩ := bind_ok h2
    obtain ⟨e2, rfl⟩ := leaf_pos h3
    obtain ⟨rfl, rfl⟩ := ok_inj h4
    simp only [F.size]; omega
  · obtain ⟨rfl, rfl⟩ := ok_inj h2
    rw [e1]; simp only [F.size]; omega
theorem typed_sz (L : List Tk) (k : Int) (i : Nat) : Szd i (typedA L k i) := fun v j h => by
  unfold typedA at h
  obtain ⟨n, q, h1, h2⟩ := bind_ok h
  obtain ⟨e1, rfl⟩ := leaf_pos h1
  obtain ⟨m, l, h3, h4⟩ := bind_ok h2
  have := typ_sz L _ _ _ h3
  obtain ⟨rfl, rfl⟩ := ok_inj h4
  simp only [size_one]; omega
theorem exp_sz (L : List Tk) : ∀ f : Nat, (∀ low i d, Szd i (absA L f low i d)) ∧ (∀ low l i d, Szl l.c.size i (labA L f low l i d)) ∧ (∀ i d, Szd i (unrA L f i d)) ∧ (∀ i d, Szd i (prmA L f i d)) ∧ (∀ x i d, Szl x.c.size i (lprA L f x i d)) ∧
    (∀ x i d, Szl x.c.size i (calA L f x i d)) ∧ (∀ i d, Szf 0 i (lstA L f i d)) ∧ (∀ l i d, Szf l.size i (llsA L f l i d)) ∧ (∀ i d, Szd i (opdA L f i d)) ∧ (∀ i d, Szd i (parA L f i d))
  | 0 => by
    refine ⟨?_, ?_, ?_, ?_, ?_, ?_, ?_, ?_, ?_, ?_⟩ <;> (intros; intro v j h) <;> first | (unfold absA at h; cases h) | (unfold labA at h; cases h) | (unfold unrA at h; cases h) | (unfold prmA at h; cases h) | (unfold lprA at h; cases h) | (unfold calA at h; cases h) | (unfold lstA at h; cases h) | (unfold llsA at h; cases h) | (unfold opdA at h; cases h) | (unfold parA at h; cases h)
  | f + 1 => by
    obtain ⟨ha, hl, hu, hp, hlp, hc, hls, hll, ho, hpa⟩ := exp_sz L f
    refine ⟨?_, ?_, ?_, ?_, ?_, ?_, ?_, ?_, ?_, ?_⟩
    · intro low i d v j h
      unfold absA at h
      obtain ⟨u, k, h1, h2⟩ := bind_ok h
      have := hu _ _ _ _ h1
      have := hl _ _ _ _ _ _ h2
      omega
    · intro low l i d v j h
      unfold labA at h
      split at h
      · obtain ⟨rfl, rfl⟩ := ok_inj h; omega
      · obtain ⟨u, k, h1, h2⟩ := bind_ok h
        have := ha _ _ _ _ _ h1
        have := hl _ _ _ _ _ _ h2
        simp only [size_snoc, size_one] at this
        omega
    · intro i d v j h
      unfold unrA at h
      split at h
      · split at h
        · cases h
        · obtain ⟨u, k, h1, h2⟩ := bind_ok h
          have := hu _ _ _ _ h1
          obtain ⟨rfl, rfl⟩ := ok_inj h2
          simp only [size_one]; omega
      · exact hp _ _ _ _ h
    · intro i d v j h
      unfold prmA at h
      obtain ⟨u, k, h1, h2⟩ := bind_ok h
      have := ho _ _ _ _ h1
      have := hlp _ _ _ _ _ h2
      omega
    · intro x i d v j h
      unfold lprA at h
      split at h
      · obtain ⟨u, k, h1, h2⟩ := bind_ok h
        have := hc _ _ _ _ _ h1
        have := hlp _ _ _ _ _ h2
        omega
      · split at h
        · obtain ⟨u, k, h1, h2⟩ := bind_ok h
          obtain ⟨e1, rfl⟩ := leaf_pos h1
          have := hlp _ _ _ _ _ h2
          simp only [size_one] at this
          omega
        · obtain ⟨rfl, rfl⟩ := ok_inj h; omega
    · intro x i d v j h
      unfold calA at h
      split at h
      · cases h
      · obtain ⟨_, h⟩ := want_ok h
        obtain ⟨u, k, h1, h2⟩ := bind_ok h
        have := hls _ _ _ _ h1
        obtain ⟨rfl, rfl⟩ := ok_inj h2
        simp only [size_app, size_one]; omega
    · intro i d v j h
      unfold lstA at h
      split at h
      · obtain ⟨rfl, rfl⟩ := ok_inj h; simp only [F.size]; omega
      · obtain ⟨u, k, h1, h2⟩ := bind_ok h
        have := ha _ _ _ _ _ h1
        have := hll _ _ _ _ _ h2
        simp only [size_one] at this
        omega
    · intro l i d v j h
      unfold llsA at h
      split at h
      · obtain ⟨u, k, h1, h2⟩ := bind_ok h
        have := ha _ _ _ _ _ h1
        have := hll _ _ _ _ _ h2
        simp only [size_snoc] at this
        omega
      · obtain ⟨_, h⟩ := want_ok h
        obtain ⟨rfl, rfl⟩ := ok_inj h; omega
    · intro i d v j h
      unfold opdA at h
      split at h
      · obtain ⟨rfl, rfl⟩ := ok_inj h; simp only [F.size]; omega
      · split at h
        · obtain ⟨rfl, rfl⟩ := ok_inj h; simp only [F.size]; omega
        · split at h
          · obtain ⟨rfl, rfl⟩ := ok_inj h; simp only [F.size]; omega
          · exact hpa _ _ _ _ h
    · intro i d v j h
      unfold parA at h
      split at h
      · cases h
      · obtain ⟨_, h⟩ := want_ok h
        obtain ⟨u, k, h1, h2⟩ := bind_ok h
        have := ha _ _ _ _ _ h1
        obtain ⟨_, h2⟩ := want_ok h2
        obtain ⟨rfl, rfl⟩ := ok_inj h2
        simp only [size_one]; omega
theorem var_sz (L : List Tk) (f i d : Nat) : Szd i (varA L f i d) := fun v j h => by
  unfold varA at h
  obtain ⟨n, k, h1, h2⟩ := bind_ok h
  have := typed_sz L _ _ _ _ h1
  split at h2
  · obtain ⟨u, l, h3, h4⟩ := bind_ok h2
    have := (exp_sz L f).1 _ _ _ _ _ h3
    obtain ⟨rfl, rfl⟩ := ok_inj h4
    simp only [size_snoc]; omega
  · obtain ⟨rfl, rfl⟩ := ok_inj h2; omega
theorem con_sz (L : List Tk) (f i d : Nat) : Szd i (conA L f i d) := fun v j h => by
  unfold conA at h
  obtain ⟨n, k, h1, h2⟩ := bind_ok h
  obtain ⟨e1, rfl⟩ := leaf_pos h1
  obtain ⟨_, h2⟩ := want_ok h2
  obtain ⟨u, l, h3, h4⟩ := bind_ok h2
  have := (exp_sz L f).1 _ _ _ _ _ h3
  obtain ⟨rfl, rfl⟩ := ok_inj h4
  simp only [size_one]; omega
theorem ret_sz (L : List Tk) (f i d : Nat) : Szd i (retA L f i d) := fun v j h => by
  unfold retA at h
  split at h
  · obtain ⟨rfl, rfl⟩ := ok_inj h; simp only [F.size]; omega
  · obtain ⟨u, l, h3, h4⟩ := bind_ok h
    have := (exp_sz L f).1 _ _ _ _ _ h3
    obtain ⟨rfl, rfl⟩ := ok_inj h4
    simp only [size_one]; omega
theorem jmp_sz (L : List Tk) (k : Int) (i : Nat) : Szd i (jmpA L k i) := fun v j h => by
  unfold jmpA at h
  split at h
  · obtain ⟨rfl, rfl⟩ := ok_inj h; simp only [F.size]; omega
  · obtain ⟨rfl, rfl⟩ := ok_inj h; simp only [F.size]; omega
theorem stm_sz (L : List Tk) : ∀ f : Nat, (∀ i d, Szd i (blkA L f i d)) ∧ (∀ l i d, Szf l.size i (brsA L f l i d)) ∧ (∀ i d, Szw i (stmA L f i d)) ∧ (∀ i d, Szd i (choA L f i d)) ∧ (∀ i d, Szd i (othA L f i d)) ∧ (∀ k x i d, Szd i (guaA L f k x i d)) ∧ (∀ i d, Szw i (simA L f i d))
  | 0 => by
    refine ⟨?_, ?_, ?_, ?_, ?_, ?_, ?_⟩ <;> (intros; intro v j h) <;> first | (unfold blkA at h; cases h) | (unfold brsA at h; cases h) | (unfold stmA at h; cases h) | (unfold choA at h; cases h) | (unfold othA at h; cases h) | (unfold guaA at h; cases h) | (unfold simA at h; cases h)
  | f + 1 => by
    obtain ⟨hb, hr, hs, hc, ho, hg, hm⟩ := stm_sz L f
    have hx := (exp_sz L f).1
    refine ⟨?_, ?_, ?_, ?_, ?_, ?_, ?_⟩
    · intro i d v j h
      unfold blkA at h
      split at h
      · cases h
      · obtain ⟨_, h⟩ := want_ok h
        obtain ⟨u, k, h1, h2⟩ := bind_ok h
        have := hr _ _ _ _ _ h1
        have := skN_le L (i + 1)
        obtain ⟨rfl, rfl⟩ := ok_inj h2
        simp only [F.size] at *
        omega
    · intro l i d v j h
      unfold brsA at h
      split at h
      · obtain ⟨rfl, rfl⟩ := ok_inj h; omega
      · obtain ⟨u, k, h1, h2⟩ := bind_ok h
        have := hs _ _ _ _ h1
        split at h2
        · have h3 := hr _ _ _ _ _ h2
          have := skN_le L k
          simp only [size_snoc] at h3
          omega
        · obtain ⟨_, h2⟩ := want_ok h2
          have h3 := hr _ _ _ _ _ h2
          have := skN_le L (k + 1)
          simp only [size_snoc] at h3
          omega
    · intro i d v j h
      unfold stmA at h
      split at h
      · have := var_sz L _ _ _ _ _ h; omega
      · split at h
        · have := con_sz L _ _ _ _ _ h; omega
        · split at h
          · exact (hb _ _).sw _ _ h
          · split at h
            · exact (hc _ _).sw _ _ h
            · split at h
              · exact (hg _ _ _ _).sw _ _ h
              · split at h
                · exact (ret_sz L _ _ _).sw _ _ h
                · split at h
                  · exact (jmp_sz L _ _).sw _ _ h
                  · split at h
                    · exact (jmp_sz L _ _).sw _ _ h
                    · exact hm _ _ _ _ h
    · intro i d v j h
      unfold choA at h
      obtain ⟨u, k, h1, h2⟩ := bind_ok h
      have := hg _ _ _ _ _ _ h1
      split at h2
      · obtain ⟨x, l, h3, h4⟩ := bind_ok h2
        have := ho _ _ _ _ h3
        obtain ⟨rfl, rfl⟩ := ok_inj h4
        simp only [size_snoc]; omega
      · obtain ⟨rfl, rfl⟩ := ok_inj h2; omega
    · intro i d v j h
      unfold othA at h
      split at h
      · split at h
        · cases h
        · exact hc _ _ _ _ h
      · exact hb _ _ _ _ h
    · intro k x i d v j h
      unfold guaA at h
      obtain ⟨_, h⟩ := want_ok h
      obtain ⟨u, q, h1, h2⟩ := bind_ok h
      have := hx _ _ _ _ _ h1
      obtain ⟨b, l, h3, h4⟩ := bind_ok h2
      have := hb _ _ _ _ h3
      obtain ⟨rfl, rfl⟩ := ok_inj h4
      simp only [size_snoc, size_one]; omega
    · intro i d v j h
      unfold simA at h
      obtain ⟨u, q, h1, h2⟩ := bind_ok h
      have := hx _ _ _ _ _ h1
      split at h2
      · obtain ⟨b, l, h3, h4⟩ := bind_ok h2
        have := hx _ _ _ _ _ h3
        obtain ⟨rfl, rfl⟩ := ok_inj h4
        simp only [size_one]; omega
      · split at h2
        · obtain ⟨b, l, h3, h4⟩ := bind_ok h2
          have := hg _ _ _ _ _ _ h3
          obtain ⟨rfl, rfl⟩ := ok_inj h4
          simp only [size_one]; omega
        · split at h2
          · obtain ⟨b, l, h3, h4⟩ := bind_ok h2
            have := hx _ _ _ _ _ h3
            obtain ⟨rfl, rfl⟩ := ok_inj h4
            simp only [size_snoc, size_one]; omega
          · obtain ⟨rfl, rfl⟩ := ok_inj h2
            simp only [size_one]; omega
theorem fld_sz (L : List Tk) : ∀ (f : Nat) (l : F) (i : Nat), Szf l.size i (fldA L f l i)
  | 0, l, i => fun v j h => by unfold fldA at h; cases h
  | f + 1, l, i => fun v j h => by
    unfold fldA at h
    split at h
    · obtain ⟨rfl, rfl⟩ := ok_inj h; omega
    · obtain ⟨u, k, h1, h2⟩ := bind_ok h
      have := typed_sz L _ _ _ _ h1
      split at h2
      · have h3 := fld_sz L f _ _ _ _ h2
        have := skN_le L k
        simp only [size_snoc] at h3
        omega
      · obtain ⟨_, h2⟩ := want_ok h2
        have h3 := fld_sz L f _ _ _ _ h2
        have := skN_le L (k + 1)
        simp only [size_snoc] at h3
        omega
theorem prs_sz (L : List Tk) : ∀ (f : Nat) (l : F) (i : Nat), Szf l.size i (prsA L f l i)
  | 0, l, i => fun v j h => by unfold prsA at h; cases h
  | f + 1, l, i => fun v j h => by
    unfold prsA at h
    split at h
    · obtain ⟨u, k, h1, h2⟩ := bind_ok h
      have := typed_sz L _ _ _ _ h1
      have h3 := prs_sz L f _ _ _ _ h2
      simp only [size_snoc] at h3
      omega
    · obtain ⟨_, h⟩ := want_ok h
      obtain ⟨rfl, rfl⟩ := ok_inj h; omega
theorem pls_sz (L : List Tk) (f i : Nat) : Szf 0 i (plsA L f i) := fun v j h => by
  unfold plsA at h
  split at h
  · obtain ⟨rfl, rfl⟩ := ok_inj h; simp only [F.size]; omega
  · obtain ⟨u, k, h1, h2⟩ := bind_ok h
    have := typed_sz L _ _ _ _ h1
    have h3 := prs_sz L f _ _ _ _ h2
    simp only [size_one] at h3
    omega
theorem str_sz (L : List Tk) (f i : Nat) : Szd i (strA L f i) := fun v j h => by
  unfold strA at h
  obtain ⟨n, k, h1, h2⟩ := bind_ok h
  obtain ⟨e1, rfl⟩ := leaf_pos h1
  obtain ⟨_, h2⟩ := want_ok h2
  obtain ⟨_, h2⟩ := want_ok h2
  obtain ⟨u, l, h3, h4⟩ := bind_ok h2
  have := fld_sz L f _ _ _ _ h3
  have := skN_le L (i + 1 + 2)
  obtain ⟨rfl, rfl⟩ := ok_inj h4
  simp only [F.size] at *
  omega
theorem fun_sz (L : List Tk) (f i : Nat) : Szd i (funA L f i) := fun v j h => by
  unfold funA at h
  obtain ⟨n, k, h1, h2⟩ := bind_ok h
  obtain ⟨e1, rfl⟩ := leaf_pos h1
  obtain ⟨_, h2⟩ := want_ok h2
  obtain ⟨u, l, h3, h4⟩ := bind_ok h2
  have := pls_sz L f _ _ _ h3
  obtain ⟨u2, l2, h5, h6⟩ := bind_ok h4
  have h7 : u2.size + 2 * l ≤ u.size + 2 * l2 := by
    split at h5
    · obtain ⟨t, m, h8, h9⟩ := bind_ok h5
      have := typ_sz L _ _ _ h8
      obtain ⟨rfl, rfl⟩ := ok_inj h9
      simp only [size_snoc]; omega
    · obtain ⟨rfl, rfl⟩ := ok_inj h5; omega
  obtain ⟨b, o, h8, h9⟩ := bind_ok h6
  have := (stm_sz L f).1 _ _ _ _ h8
  obtain ⟨rfl, rfl⟩ := ok_inj h9
  simp only [size_snoc]; omega
theorem dec_sz (L : List Tk) (f i : Nat) : Szd i (decA L f i) := fun v j h => by
  unfold decA at h
  split at h
  · have := var_sz L _ _ _ _ _ h; omega
  · split at h
    · have := con_sz L _ _ _ _ _ h; omega
    · split at h
      · have := str_sz L _ _ _ _ h; omega
      · obtain ⟨_, h⟩ := want_ok h
        have := fun_sz L _ _ _ _ h; omega
theorem end_pos {L : List Tk} {i : Nat} {u : Unit} {j : Nat} (h : endA L i = .ok u j) : i + 1 ≤ j := by
  unfold endA at h
  obtain ⟨_, h⟩ := want_ok h
  obtain ⟨_, rfl⟩ := ok_inj h
  exact skN_le L _
theorem imp_sz (L : List Tk) : ∀ (f : Nat) (l : F) (i : Nat), Szf l.size i (impA L f l i)
  | 0, l, i => fun v j h => by unfold impA at h; cases h
  | f + 1, l, i => fun v j h => by
    unfold impA at h
    split at h
    · obtain ⟨u, k, h1, h2⟩ := bind_ok h
      have := leaf_sz L _ _ _ _ _ h1
      obtain ⟨_, q, h3, h4⟩ := bind_ok h2
      have := end_pos h3
      have h5 := imp_sz L f _ _ _ _ h4
      simp only [size_snoc] at h5
      omega
    · obtain ⟨rfl, rfl⟩ := ok_inj h; omega
theorem dcs_sz (L : List Tk) : ∀ (f : Nat) (l : F) (i : Nat) (v : F) (j : Nat), dcsA L f l i = .ok v j → v.size + 2 * i ≤ l.size + 2 * j ∧ knd L j 7 = true
  | 0, l, i => fun v j h => by unfold dcsA at h; cases h
  | f + 1, l, i => fun v j h => by
    unfold dcsA at h
    split at h
    · rename_i hk
      obtain ⟨rfl, rfl⟩ := ok_inj h
      exact ⟨by omega, hk⟩
    · obtain ⟨u, k, h1, h2⟩ := bind_ok h
      have := dec_sz L _ _ _ _ h1
      obtain ⟨_, q, h3, h4⟩ := bind_ok h2
      have := end_pos h3
      obtain ⟨h5, h6⟩ := dcs_sz L f _ _ _ _ h4
      simp only [size_snoc] at h5
      exact ⟨by omega, h6⟩
/-- A file's tree: at most two nodes a word; it is a file's, of no token. -/
theorem fil_sz (L : List Tk) (f : Nat) (v : Nd) (o : Nat) (h : filA L f = .ok v o) : v.c.size ≤ 2 * L.length ∧ v.k = 1 ∧ v.t = 0 := by
  unfold filA at h
  obtain ⟨_, h⟩ := want_ok h
  obtain ⟨n, j, h1, h2⟩ := bind_ok h
  obtain ⟨e1, rfl⟩ := leaf_pos h1
  obtain ⟨_, k, h3, h4⟩ := bind_ok h2
  have := end_pos h3
  obtain ⟨l, m, h5, h6⟩ := bind_ok h4
  have h7 := imp_sz L f _ _ _ _ h5
  obtain ⟨l', q, h8, h9⟩ := bind_ok h6
  obtain ⟨h10, h11⟩ := dcs_sz L f _ _ _ _ h8
  obtain ⟨_, h9⟩ := want_ok h9
  obtain ⟨rfl, rfl⟩ := ok_inj h9
  have := knd_in (by decide) h11
  simp only [size_one, e1, F.size] at h7
  exact ⟨by simp only at h10 ⊢; omega, rfl, rfl⟩
end Go.Proofs.YtiknnobgoamgcaaGreatDoor
