/-
  Texts made of pieces (blanks, line ends, words, numbers, signs), cut into words again: kinds and spellings. No program.
-/
import Derived.Test.YtiknnobgoamgcaaGreatDoorB23
namespace Go.Proofs.YtiknnobgoamgcaaGreatDoor
open Go.RowKit
set_option linter.unusedSimpArgs false
set_option linter.unusedVariables false
inductive Pc where
  | bl
  | nl
  | sm
  | wd (l : List UInt8)
  | nm (l : List UInt8)
  | op (l : List UInt8)
def Pc.txt : Pc → List UInt8
  | .bl => [32]
  | .nl => [10]
  | .sm => [59]
  | .wd l => l
  | .nm l => l
  | .op l => l
def txts : List Pc → List UInt8
  | [] => []
  | p :: ps => p.txt ++ txts ps
theorem txts_app : ∀ a b : List Pc, txts (a ++ b) = txts a ++ txts b
  | [], _ => rfl
  | p :: a, b => by simp only [List.cons_append, txts, txts_app a b, List.append_assoc]
/-- A sign's first byte. -/
def spB (c : Nat) : Bool := !(decide (c = 32) || decide (c = 9) || decide (c = 10) || decide (c = 59) || decide (c = 47) || decide (c = 34)) && !digB c && !letB c
/-- The piece ends where r begins. -/
def Pc.okP (r : List UInt8) : Pc → Bool
  | .bl => true
  | .nl => true
  | .sm => true
  | .wd l => letB (l.getD 0 0).toNat && l.all (fun c => clsB true c.toNat) && decide (l.length ≤ 24) && !(clsB true (r.getD 0 0).toNat)
  | .nm l => decide (0 < l.length) && l.all (fun c => digB c.toNat) && decide (l.length ≤ 12) && !(decide (1 < l.length) && decide ((l.getD 0 0).toNat = 48)) && !(digB (r.getD 0 0).toNat) && !(letB (r.getD 0 0).toNat)
  | .op l => spB (l.getD 0 0).toNat && isOp (bs l) && (decide (l.length = 2) || (decide (l.length = 1) && (decide (r.length = 0) || !isOp (bs (l ++ r.take 1)))))
def okPs : List Pc → Bool
  | [] => true
  | p :: ps => p.okP (txts ps) && okPs ps
def Pc.plain : Pc → Bool := fun p => p.txt.all fun c => (decide (32 ≤ c.toNat) && decide (c.toNat < 127)) || decide (c.toNat = 10)
abbrev KS := Int × ByteArray
def kap (t : Tk) : KS := (t.k, t.s)
def semT : KS := (6, bs [59])
def Pc.kp : Pc → List KS
  | .bl => []
  | .nl => []
  | .sm => [semT]
  | .wd l => [(if isKey (bs l) then 5 else 1, bs l)]
  | .nm l => [(2, bs l)]
  | .op l => [(4, bs l)]
def endK (t : KS) : Bool := endB ⟨t.1, t.2, 0, 0, false⟩
def semK (K : List KS) : List KS := match K.getLast? with
  | none => K
  | some t => if endK t then K ++ [semT] else K
def tokK : List KS → List Pc → List KS
  | K, [] => K
  | K, .nl :: ps => tokK (semK K) ps
  | K, p :: ps => tokK (K ++ p.kp) ps
theorem tokK_app : ∀ (a b : List Pc) (K : List KS), tokK K (a ++ b) = tokK (tokK K a) b
  | [], _, _ => rfl
  | p :: a, b, K => by cases p <;> simp only [List.cons_append, tokK, tokK_app a b]
theorem endK_eq (t : Tk) : endK (kap t) = endB t := rfl
theorem kap_semi (x : Sc) : x.semi.l.map kap = semK (x.l.map kap) := by
  unfold Sc.semi semK
  rw [List.getLast?_map]
  cases h : x.l.getLast? with
  | none => rfl
  | some t =>
    dsimp only [Option.map_some]
    rw [endK_eq]
    cases endB t with
    | true => simp only [if_true, List.map_append, List.map_cons, List.map_nil]; rfl
    | false => rfl
section
variable {l r : List UInt8} {p : Nat}
theorem at_drop (h : l.drop p = r) (j : Nat) : byteAt (bs l) (p + j) = (r.getD j 0).toNat := by
  rw [byteAt_bs, ← h]
  simp only [List.getD, List.getElem?_drop]
theorem at_drop0 (h : l.drop p = r) : byteAt (bs l) p = (r.getD 0 0).toNat := at_drop h 0
theorem size_drop (h : l.drop p = r) (hp : p ≤ l.length) : (bs l).size = p + r.length := by
  rw [bs_size, ← h, List.length_drop]
  omega
theorem cut_drop (h : l.drop p = r) (k : Nat) : (bs l).extract p (p + k) = bs (r.take k) := by
  rw [extract_bs, List.drop_take, h, show p + k - p = k by omega]
theorem drop_app {a b : List UInt8} (h : l.drop p = a ++ b) : l.drop (p + a.length) = b := by
  rw [← List.drop_drop, h, List.drop_left]
theorem kap_add (s : ByteArray) (x : Sc) (k : Int) (t : Nat) : (x.add s k t).l.map kap = x.l.map kap ++ [(k, s.extract x.p t)] := by
  simp only [Sc.add, List.map_append, List.map_cons, List.map_nil, kap]
theorem take_app0 (a b : List UInt8) : (a ++ b).take a.length = a := List.take_left
theorem cls_in (wd : Bool) {w : List UInt8} (hw : w.all (fun c => clsB wd c.toNat) = true) (h : l.drop p = w ++ r) (hp : p ≤ l.length) (he : clsB wd (r.getD 0 0).toNat = false) : toN (bs l) wd p = p + w.length := by
  have hsz := size_drop h hp
  rw [List.length_append] at hsz
  refine toN_eq w.length p (p + w.length) rfl (by omega) (fun i h1 h2 => ?_) (.inr ?_)
  · obtain ⟨j, rfl⟩ : ∃ j, i = p + j := ⟨i - p, by omega⟩
    have hj : j < w.length := by omega
    rw [at_drop h j]
    have := List.all_eq_true.1 hw (w[j]) (List.getElem_mem hj)
    simpa [List.getD, List.getElem?_append_left hj, hj] using this
  · rw [at_drop h w.length]
    simpa [List.getD, List.getElem?_append_right (Nat.le_refl _)] using he
end
/-- One piece is one step. -/
theorem pc_step {l : List UInt8} {q : Pc} {r : List UInt8} {x : Sc} (f : Nat) (h : l.drop x.p = q.txt ++ r) (hp : x.p ≤ l.length) (hq : q.okP r = true) :
    ∃ y : Sc, scanL (bs l) (f + 1) x = scanL (bs l) f y ∧ y.p = x.p + q.txt.length ∧ y.c = x.c ∧ y.l.map kap = (match q with | .nl => semK (x.l.map kap) | _ => x.l.map kap ++ q.kp) := by
  have hsz := size_drop h hp
  rw [List.length_append] at hsz
  cases q with
  | bl =>
    simp only [Pc.txt] at *
    refine ⟨⟨x.p + 1, x.line, x.l, x.c⟩, step_blank (by rw [hsz]; simp; omega) (by rw [at_drop0 h]; rfl), rfl, rfl, by simp [Pc.kp]⟩
  | nl =>
    simp only [Pc.txt] at *
    exact ⟨⟨x.p + 1, x.line + 1, x.semi.l, x.c⟩, step_nl (by rw [hsz]; simp; omega) (by rw [at_drop0 h]; rfl), rfl, rfl, kap_semi x⟩
  | sm =>
    simp only [Pc.txt] at *
    have hb : byteAt (bs l) x.p = 59 := by rw [at_drop0 h]; rfl
    have hlt : x.p < (bs l).size := by rw [hsz]; simp; omega
    have e : x.one (bs l) = (true, x.add (bs l) 6 (x.p + 1)) := by rw [Sc.one, if_neg (by omega), if_neg (by omega), if_pos hb]
    refine ⟨x.add (bs l) 6 (x.p + 1), by rw [scanL_step hlt (by rw [e]), e], rfl, rfl, ?_⟩
    rw [kap_add, cut_drop h 1]
    rfl
  | wd w =>
    simp only [Pc.okP, Bool.and_eq_true, decide_eq_true_eq, Bool.not_eq_true'] at hq
    simp only [Pc.txt] at h hsz ⊢
    obtain ⟨⟨⟨h1, h2⟩, h3⟩, h4⟩ := hq
    have hw0 : 0 < w.length := by
      cases w with
      | nil => exact absurd h1 (by decide)
      | cons _ _ => simp
    have hb : byteAt (bs l) x.p = (w.getD 0 0).toNat := by
      rw [at_drop0 h]
      simp [List.getD, List.getElem?_append_left hw0]
    have ht := cls_in true h2 h hp h4
    refine ⟨_, step_name (by rw [hsz]; omega) (by rw [hb]; exact h1) ht (by omega), rfl, rfl, ?_⟩
    rw [kap_add, cut_drop h w.length, take_app0]
    rfl
  | nm w =>
    simp only [Pc.okP, Bool.and_eq_true, decide_eq_true_eq, Bool.not_eq_true'] at hq
    simp only [Pc.txt] at h hsz ⊢
    obtain ⟨⟨⟨⟨⟨h0, h1⟩, h2⟩, h3⟩, h4⟩, h5⟩ := hq
    have hb : byteAt (bs l) x.p = (w.getD 0 0).toNat := by
      rw [at_drop0 h]
      simp [List.getD, List.getElem?_append_left h0]
    have hd : digB (w.getD 0 0).toNat = true := by
      have := List.all_eq_true.1 h1 (w[0]) (List.getElem_mem h0)
      simpa [List.getD, h0] using this
    have ht : toN (bs l) false x.p = x.p + w.length := cls_in false (by simpa [clsB] using h1) h hp (by simpa [clsB] using h4)
    have hn : numB (bs l) x.p = true := by
      unfold numB
      rw [ht, hb, show x.p + w.length - x.p = w.length by omega, at_drop h w.length, decide_eq_true h2]
      rw [show ((w ++ r).getD w.length 0) = r.getD 0 0 by simp [List.getD, List.getElem?_append_right (Nat.le_refl _)], h5, Bool.and_false, h3]
      rfl
    refine ⟨_, step_num (by rw [hsz]; omega) (by rw [hb]; exact hd) hn, by rw [ht]; rfl, rfl, ?_⟩
    rw [kap_add, ht, cut_drop h w.length, take_app0]
    rfl
  | op w =>
    simp only [Pc.okP, Bool.and_eq_true, decide_eq_true_eq, Bool.not_eq_true', Bool.or_eq_true] at hq
    simp only [Pc.txt] at h hsz ⊢
    obtain ⟨⟨h1, h2⟩, h3⟩ := hq
    have hw0 : 0 < w.length := by omega
    have hb : byteAt (bs l) x.p = (w.getD 0 0).toNat := by
      rw [at_drop0 h]
      simp [List.getD, List.getElem?_append_left hw0]
    have ho : opN (bs l) x.p = w.length := by
      unfold opN
      rcases h3 with h3 | ⟨h3, h4⟩
      · rw [cut_drop h 2, show (w ++ r).take 2 = w by rw [← h3, take_app0], h2, decide_eq_true (by rw [hsz]; omega)]
        rw [h3]
        rfl
      · have e1 : isOp ((bs l).extract x.p (x.p + 1)) = true := by rw [cut_drop h 1, show (w ++ r).take 1 = w by rw [← h3, take_app0]]; exact h2
        have e2 : (decide (x.p + 2 ≤ (bs l).size) && isOp ((bs l).extract x.p (x.p + 2))) = false := by
          rcases h4 with h4 | h4
          · rw [decide_eq_false (by rw [hsz]; omega)]
            rfl
          · rw [cut_drop h 2, show (w ++ r).take 2 = w ++ r.take 1 by rw [List.take_append, h3, List.take_of_length_le (by omega)], h4, Bool.and_false]
        rw [e1, e2, h3]
        rfl
    unfold spB at h1
    simp only [Bool.and_eq_true, Bool.not_eq_true', Bool.or_eq_false_iff, decide_eq_false_iff_not] at h1
    obtain ⟨⟨⟨⟨⟨⟨⟨a1, a2⟩, a3⟩, a4⟩, a5⟩, a6⟩, a7⟩, a8⟩ := h1
    rw [← hb] at a1 a2 a3 a4 a5 a6 a7 a8
    have e : x.one (bs l) = (true, x.add (bs l) 4 (x.p + w.length)) := by
      rw [Sc.one, if_neg (by omega), if_neg a3, if_neg a4, if_neg a5, if_neg a6, a7, if_neg (by decide), a8, if_neg (by decide), ho, if_pos (by omega), decide_eq_true (by omega)]
    refine ⟨x.add (bs l) 4 (x.p + w.length), by rw [scanL_step (by rw [hsz]; omega) (by rw [e]), e], rfl, rfl, ?_⟩
    rw [kap_add, cut_drop h w.length, take_app0]
    rfl
theorem pc_pos (q : Pc) (r : List UInt8) (h : q.okP r = true) : 0 < q.txt.length := by
  cases q with
  | bl => simp [Pc.txt]
  | nl => simp [Pc.txt]
  | sm => simp [Pc.txt]
  | wd w =>
    simp only [Pc.okP, Bool.and_eq_true] at h
    cases w with
    | nil => exact absurd h.1.1.1 (by decide)
    | cons _ _ => simp [Pc.txt]
  | nm w =>
    simp only [Pc.okP, Bool.and_eq_true, decide_eq_true_eq] at h
    exact h.1.1.1.1.1
  | op w =>
    simp only [Pc.okP, Bool.and_eq_true, decide_eq_true_eq, Bool.or_eq_true] at h
    have := h.2
    show 0 < w.length
    omega
theorem pcs_scan (l : List UInt8) : ∀ (ps : List Pc) (f : Nat) (x : Sc), l.drop x.p = txts ps → x.p ≤ l.length → okPs ps = true → (txts ps).length ≤ f → ∃ y : Sc, scanL (bs l) f x = (true, y) ∧ y.c = x.c ∧ y.l.map kap = tokK (x.l.map kap) ps
  | [], f, x, h, hp, _, _ => by
    have hsz := size_drop h hp
    exact ⟨x, scanL_end (by rw [hsz]; simp [txts]), rfl, rfl⟩
  | q :: ps, f, x, h, hp, ho, hf => by
    simp only [okPs, Bool.and_eq_true] at ho
    simp only [txts] at h hf
    have hq := pc_pos q _ ho.1
    rw [List.length_append] at hf
    obtain ⟨f', rfl⟩ : ∃ f', f = f' + 1 := ⟨f - 1, by omega⟩
    obtain ⟨y, h1, h2, h3, h4⟩ := pc_step f' h hp ho.1
    have hl := congrArg List.length h
    rw [List.length_drop, List.length_append] at hl
    obtain ⟨z, k1, k2, k3⟩ := pcs_scan l ps f' y (by rw [h2]; exact drop_app h) (by rw [h2]; omega) ho.2 (by omega)
    refine ⟨z, h1.trans k1, k2.trans h3, ?_⟩
    rw [k3, h4]
    cases q <;> rfl
theorem plain_txts : ∀ ps : List Pc, ps.all Pc.plain = true → (txts ps).all (fun c => (decide (32 ≤ c.toNat) && decide (c.toNat < 127)) || decide (c.toNat = 10)) = true
  | [], _ => rfl
  | p :: ps, h => by
    simp only [List.all_cons, Bool.and_eq_true] at h
    rw [txts, List.all_append, Bool.and_eq_true]
    exact ⟨h.1, plain_txts ps h.2⟩
theorem plain_all (ps : List Pc) (h : ps.all Pc.plain = true) (i : Nat) (hi : i < (txts ps).length) : (32 ≤ ((txts ps).getD i 0).toNat ∧ ((txts ps).getD i 0).toNat < 127) ∨ ((txts ps).getD i 0).toNat = 10 := by
  have := List.all_eq_true.1 (plain_txts ps h) _ (List.getElem_mem hi)
  simp only [Bool.or_eq_true, Bool.and_eq_true, decide_eq_true_eq] at this
  simpa [List.getD, hi] using this
/-- The words of such a text. -/
theorem scan_pcs (ps : List Pc) (ho : okPs ps = true) (hp : ps.all Pc.plain = true) (hl : (txts ps).length ≤ 2000) :
    (scanR (bs (txts ps)) (bigF (bs (txts ps)) (flt (bs (txts ps))))).2.2 = -1 ∧ (scanR (bs (txts ps)) (bigF (bs (txts ps)) (flt (bs (txts ps))))).1.map kap = semK (tokK [] ps) ++ [(7, ⟨#[]⟩)] := by
  obtain ⟨y, h1, h2, h3⟩ := pcs_scan (txts ps) ps (bs (txts ps)).size sc0 rfl (Nat.zero_le _) ho (by rw [bs_size]; exact Nat.le_refl _)
  have hsc : scanR (bs (txts ps)) (bigF (bs (txts ps)) (flt (bs (txts ps)))) = scanR (bs (txts ps)) (-1) := scanS_plain (bs (txts ps)) (fun i hi => by
    rw [byteAt_bs]
    rw [bs_size] at hi
    exact plain_all ps hp i hi) (by rw [bs_size]; exact hl)
  rw [hsc, scanR_ok h1 (by decide)]
  refine ⟨rfl, ?_⟩
  rw [List.map_append, kap_semi, h3]
  rfl
end Go.Proofs.YtiknnobgoamgcaaGreatDoor
