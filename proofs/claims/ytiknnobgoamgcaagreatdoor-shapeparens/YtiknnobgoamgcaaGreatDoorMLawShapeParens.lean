/-
  ShapeParens' walk.
-/
import Derived.Test.YtiknnobgoamgcaaGreatDoorMPcPar
import Derived.Test.YtiknnobgoamgcaaGreatDoorMShBegun
import Derived.Test.YtiknnobgoamgcaaGreatDoorB23
namespace Go.Proofs.YtiknnobgoamgcaaGreatDoor
open Go.RowKit Go.Lib Go.Sort
set_option linter.unusedSimpArgs false
set_option linter.unusedVariables false
set_option maxRecDepth 100000
def oP1 : List Pc := [.op [40]]
def cP1 : List Pc := [.op [41]]
def bP1 : List Pc := [.bl]
def pA (n m : Nat) : List Pc := repP oP1 n ++ (repP bP1 m ++ (.nm [49] :: (repP bP1 m ++ repP cP1 n)))
theorem kps_bl : ∀ m : Nat, kps (repP bP1 m) = []
  | 0 => rfl
  | m + 1 => by rw [repP, kps_app, kps_bl m]; rfl
theorem pA_kps (n m : Nat) : kps (pA n m) = parK n := by
  rw [pA, kps_app, kps_app, kps_bl, kps_rep, kps, kps_app, kps_bl, kps_rep]
  rfl
theorem parK_last : ∀ n : Nat, ∃ K t, parK n = K ++ [t] ∧ endK t = true
  | 0 => ⟨[], onK, rfl, rfl⟩
  | n + 1 => ⟨repK [oP] (n + 1) ++ onK :: repK [cP] n, cP, by rw [parK, repK_snoc [cP]]; simp, rfl⟩
theorem rep_head (u : List Pc) (c : UInt8) (q0 : List UInt8) (hu : txts u = c :: q0) (n : Nat) (r : List UInt8) : (n = 0 ∧ txts (repP u n) ++ r = r) ∨ ∃ q, txts (repP u n) ++ r = c :: q := by
  cases n with
  | zero => exact .inl ⟨rfl, rfl⟩
  | succ n => exact .inr ⟨q0 ++ (txts (repP u n) ++ r), by rw [repP, txts_app, hu]; simp⟩
theorem pA_ok (n m : Nat) : okR [10] (pA n m) = true := by
  have b0 : ∀ q, okR q bP1 = true := fun q => rfl
  have c1 : okR [10] cP1 = true := by kernel_rfl
  have c2 : ∀ q, okR (41 :: q) cP1 = true := fun q => by kernel_rfl
  have o1 : ∀ q, okR (40 :: q) oP1 = true := fun q => by kernel_rfl
  have o2 : ∀ q, okR (32 :: q) oP1 = true := fun q => by kernel_rfl
  have o3 : ∀ q, okR (49 :: q) oP1 = true := fun q => by kernel_rfl
  have n1 : ∀ q, (Pc.nm [49]).okP (32 :: q) = true := fun q => by kernel_rfl
  have n2 : ∀ q, (Pc.nm [49]).okP (41 :: q) = true := fun q => by kernel_rfl
  have n3 : ∀ q, (Pc.nm [49]).okP (10 :: q) = true := fun q => by kernel_rfl
  have hc : okR [10] (repP cP1 n) = true := okR_rep cP1 _ c1 (fun q => c2 q) n
  have hb : ∀ r m, okR r (repP bP1 m) = true := fun r m => okR_rep bP1 r (b0 r) (fun q => b0 _) m
  have hnm : (Pc.nm [49]).okP (txts (repP bP1 m ++ repP cP1 n) ++ [10]) = true := by
    rw [txts_app, List.append_assoc]
    rcases rep_head bP1 32 [] rfl m (txts (repP cP1 n) ++ [10]) with ⟨_, h⟩ | ⟨q, h⟩
    · rw [h]
      rcases rep_head cP1 41 [] rfl n [10] with ⟨_, h⟩ | ⟨q, h⟩
      · rw [h]; exact n3 []
      · rw [h]; exact n2 q
    · rw [h]; exact n1 q
  have h2 : okR [10] (.nm [49] :: (repP bP1 m ++ repP cP1 n)) = true := by
    rw [okR, hnm, okR_app, hb, hc]
    rfl
  have h3 : okR [10] (repP bP1 m ++ (.nm [49] :: (repP bP1 m ++ repP cP1 n))) = true := by rw [okR_app, hb, h2]; rfl
  rw [pA, okR_app, h3, Bool.and_true]
  rw [txts_app, List.append_assoc]
  rcases rep_head bP1 32 [] rfl m (txts (Pc.nm [49] :: (repP bP1 m ++ repP cP1 n)) ++ [10]) with ⟨_, h⟩ | ⟨q, h⟩
  · rw [h]
    exact okR_rep oP1 _ (o3 _) (fun q => o1 q) n
  · rw [h]
    exact okR_rep oP1 _ (o2 q) (fun q => o1 q) n
theorem pA_plain (n m : Nat) : (pA n m).all Pc.plain = true := by
  rw [pA, List.all_append, List.all_append, List.all_cons, List.all_append, plain_rep oP1 rfl, plain_rep bP1 rfl, plain_rep cP1 rfl]
  rfl
theorem pA_noNl (n m : Nat) : noNl (pA n m) = true := noNl_app _ _ (noNl_rep _ rfl n) (noNl_app _ _ (noNl_rep _ rfl m) (noNl_app _ _ (noNl_rep _ rfl m) (noNl_rep _ rfl n)))
theorem pA_len (n m : Nat) : (txts (pA n m)).length = 2 * n + 2 * m + 1 := by
  rw [pA, txts_app, txts_app, txts, txts_app, List.length_append, List.length_append, List.length_append, List.length_append, len_rep, len_rep, len_rep]
  simp only [oP1, cP1, bP1, txts, Pc.txt, List.length_append, List.length_cons, List.length_nil]
  omega
theorem prT_size : ∀ n i : Nat, (one (prT n i)).size = n + 1
  | 0, _ => rfl
  | n + 1, i => by
    have := prT_size n (i + 1)
    simp only [prT, one, F.size] at this ⊢
    omega
theorem par_of (n m : Nat) (hn : n ≤ 31) (hm : m ≤ 31) : OfIs (exT (txts (pA n m))) (some (preS ++ parE n ++ [41, 41])) := by
  have hlen := pA_len n m
  obtain ⟨K, t, hK, ht⟩ := parK_last n
  obtain ⟨s1, s2⟩ := scan_expr (pA n m) t K (by rw [pA_kps, hK]) ht (pA_noNl n m) (pA_ok n m) (pA_plain n m) (by omega)
  rw [pA_kps] at s2
  have hz : (exT (txts (pA n m))).size ≤ 700000 := by
    simp only [exT, bs_size, preE, List.length_append, List.length_cons, List.length_nil]
    omega
  generalize exT (txts (pA n m)) = T at *
  generalize hR : scanA T = R at s1 s2
  have hat : At R.1 0 (headE ++ (parK n ++ semE)) := s2
  have h7 : At R.1 7 (parK n ++ semT :: [(7, ⟨#[]⟩)]) := hat.skip (A := headE)
  have hx := abs_par n R.1 7 0 300 0 semT [(7, ⟨#[]⟩)] h7 (by decide) (by omega) (by omega)
  have hj : At R.1 (7 + 2 * n + 1) semE := by
    have := h7.skip (A := parK n)
    have hl : (parK n).length = 2 * n + 1 := by rw [parK, List.length_append, List.length_cons, repK_len, repK_len]; simp; omega
    rw [hl] at this
    exact this
  have hfil := file_expr (f := 299) hat hx hj
  have hl2 := hj.len (Nat.le_of_lt hj.lt)
  have hsh : shN R.1 ⟨1, 0, exF (prT n 7)⟩ = preS ++ parE n ++ [41, 41] := by
    rw [file_shape hat (prT n 7), par_shape n R.1 7 (repK [cP] n ++ semE) (by
      have : At R.1 7 (parK n ++ semE) := hat.skip (A := headE)
      rw [parK] at this
      simpa only [List.append_assoc, List.cons_append] using this)]
  have hpl := parE_len n
  refine ofIs_ok T hz (by rw [hR, s1]; decide) (by rw [hR, hl2]; simp [semE]) (by rw [hR, hl2]; simp [semE]; omega) (f := 301) (by decide) ⟨1, 0, exF (prT n 7)⟩ _ (by rw [hR]; exact filA_ok hfil) ?_ _ (by rw [hR]; exact hsh) (by simp only [List.length_append, hpl, preS, List.length_cons, List.length_nil]; omega)
  have := prT_size n 7
  simp only [one] at this
  simp only [exF, F.size] at this ⊢
  omega
theorem parE_ne (n : Nat) : sameV (some (preS ++ parE n ++ [41, 41])) (some (preS ++ parE (n + 1) ++ [41, 41])) = false := by
  show (preS ++ parE n ++ [41, 41] == preS ++ parE (n + 1) ++ [41, 41]) = false
  rw [beq_eq_false_iff_ne]
  intro h
  have := congrArg List.length h
  simp only [List.length_append, parE_len] at this
  omega
theorem parE_eq (n : Nat) : sameV (some (preS ++ parE n ++ [41, 41])) (some (preS ++ parE n ++ [41, 41])) = true := by
  show (preS ++ parE n ++ [41, 41] == preS ++ parE n ++ [41, 41]) = true
  exact beq_self_eq_true _
set_option maxHeartbeats 8000000 in
theorem shapeParens_shell (a0 : Int) (w0 : (Lit.int .i64 a0).wf = true) (w : World) (hTab : Tab w) :
    Calls Tryz.prog 6 #[.int .i64 a0] w fun e w' => e = .returned (.bool true) ∧ Below w.heap.size w w' := by
  obtain ⟨hn0, hn1⟩ := bounds_i64 w0
  clear w0
  have HB := zH (slBegun_any w hTab)
  replace hTab := zH hTab
  by_cases h1 : a0 < 0
  · go_enter Tryz.func6, Tryz.ntmps6
    go_wp2_with fail
    refine (uH HB).mono ?_
    rintro e W1 ⟨rfl, hb1⟩
    go_wp2
    go_ret
    exact ⟨rfl, hb1⟩
  by_cases h2 : 30 < a0
  · go_enter Tryz.func6, Tryz.ntmps6
    go_wp2_with fail
    refine (uH HB).mono ?_
    rintro e W1 ⟨rfl, hb1⟩
    go_wp2
    go_ret
    exact ⟨rfl, hb1⟩
  obtain ⟨n, rfl⟩ : ∃ n : Nat, a0 = n := ⟨a0.toNat, by omega⟩
  have HS1 := zH (fun w hw => shSame_any _ _ _ _ (par_of n 0 (by omega) (by omega)) (par_of n n (by omega) (by omega)) w hw)
  have HS2 := zH (fun w hw => shSame_any _ _ _ _ (par_of n 0 (by omega) (by omega)) (par_of (n + 1) 0 (by omega) (by omega)) w hw)
  rw [parE_eq] at HS1
  rw [parE_ne] at HS2
  have hA : ((((⟨#[112, 97, 99, 107, 97, 103, 101, 32, 112, 10, 118, 97, 114, 32, 120, 32, 105, 110, 116, 32, 61, 32]⟩ : ByteArray) ++ bs (txts (repP oP1 n))) ++ ⟨#[49]⟩) ++ bs (txts (repP cP1 n))) ++ ⟨#[10]⟩ = exT (txts (pA n 0)) := by
    show bs preE ++ bs (txts (repP oP1 n)) ++ bs [49] ++ bs (txts (repP cP1 n)) ++ bs [10] = _
    simp only [bs_app, exT, pA, txts_app, txts, repP, Pc.txt, List.append_assoc, List.nil_append, List.cons_append]
  have hBt : ((((((⟨#[112, 97, 99, 107, 97, 103, 101, 32, 112, 10, 118, 97, 114, 32, 120, 32, 105, 110, 116, 32, 61, 32]⟩ : ByteArray) ++ bs (txts (repP oP1 n))) ++ bs (txts (repP bP1 n))) ++ ⟨#[49]⟩) ++ bs (txts (repP bP1 n))) ++ bs (txts (repP cP1 n))) ++ ⟨#[10]⟩ = exT (txts (pA n n)) := by
    show bs preE ++ bs (txts (repP oP1 n)) ++ bs (txts (repP bP1 n)) ++ bs [49] ++ bs (txts (repP bP1 n)) ++ bs (txts (repP cP1 n)) ++ bs [10] = _
    simp only [bs_app, exT, pA, txts_app, txts, Pc.txt, List.append_assoc, List.nil_append, List.cons_append]
  have hC : ((((⟨#[112, 97, 99, 107, 97, 103, 101, 32, 112, 10, 118, 97, 114, 32, 120, 32, 105, 110, 116, 32, 61, 32, 40]⟩ : ByteArray) ++ bs (txts (repP oP1 n))) ++ ⟨#[49]⟩) ++ bs (txts (repP cP1 n))) ++ ⟨#[41, 10]⟩ = exT (txts (pA (n + 1) 0)) := by
    show bs (preE ++ [40]) ++ bs (txts (repP oP1 n)) ++ bs [49] ++ bs (txts (repP cP1 n)) ++ bs [41, 10] = _
    have e1 : txts (repP oP1 (n + 1)) = 40 :: txts (repP oP1 n) := rfl
    have e2 : txts (repP cP1 (n + 1)) = txts (repP cP1 n) ++ [41] := by rw [repP_snoc, txts_app]; rfl
    simp only [bs_app, exT, pA, txts_app, txts, e1, e2, Pc.txt, List.append_assoc, List.nil_append, List.cons_append]
    rfl
  have st : ∀ (u : List Pc) (c : UInt8), txts u = [c] → ∀ i, bs (txts (repP u i)) ++ (⟨#[c]⟩ : ByteArray) = bs (txts (repP u (i + 1))) := fun u c hu i => by
    show bs (txts (repP u i)) ++ bs [c] = _
    rw [bs_app, repP_snoc, txts_app, hu]
  have s1 := zH (st oP1 40 rfl)
  have s2 := zH (st cP1 41 rfl)
  have s3 := zH (st bP1 32 rfl)
  have hsz : ∀ (u : List Pc), (txts u).length = 1 → ∀ i, i ≤ 30 → (bs (txts (repP u i))).size ≤ 30 := fun u hu i hi => by rw [bs_size, len_rep, hu]; omega
  have z1 := hsz oP1 rfl
  have z2 := hsz cP1 rfl
  have z3 := hsz bP1 rfl
  replace hA := zH hA
  replace hBt := zH hBt
  replace hC := zH hC
  clear st hsz
  go_enter Tryz.func6, Tryz.ntmps6
  go_wp2_with fail
  refine (uH HB).mono ?_
  rintro e W1 ⟨rfl, hb1⟩
  have hT1 := zH ((uH hTab).of hb1)
  clear HB hTab
  replace hb1 := zH hb1
  go_wp2
  go_loopg [4, 5, 6, 7] n (fun gf s4 s5 s6 s7 wx => ∃ i : Nat, s4 = .string (bs (txts (repP oP1 i))) ∧ s5 = .string (bs (txts (repP cP1 i))) ∧ s6 = .string (bs (txts (repP bP1 i))) ∧ s7 = .int .i64 i ∧ i + gf = n ∧ wx = W1)
  case atStart => exact ⟨0, rfl, rfl, rfl, rfl, by omega, rfl⟩
  case round =>
    obtain ⟨i, rfl, rfl, rfl, rfl, hig, rfl⟩ := hrel
    have y1 := z1 i (by omega)
    have y2 := z2 i (by omega)
    have y3 := z3 i (by omega)
    by_cases hlt : i < n
    · have hlz : (i : Int) < n := by omega
      obtain ⟨g', rfl⟩ : ∃ g', gk = g' + 1 := ⟨gk - 1, by omega⟩
      have q1 := uH s1 i
      have q2 := uH s2 i
      have q3 := uH s3 i
      clear z1 z2 z3
      go_wp2
      go_roundg g'
      case measure => omega
      case rel => exact ⟨i + 1, by first | rfl | rw [← q1], by first | rfl | rw [← q2], by first | rfl | rw [← q3], by go_num, by omega, by trivial⟩
    · have hlz : ¬ (i : Int) < n := by omega
      obtain rfl : i = n := by omega
      have qA := uH hA
      have qB := uH hBt
      have qC := uH hC
      clear z1 z2 z3 s1 s2 s3 hA hBt hC
      go_wp2_with fail
      refine (uH HS1 _ (uH hT1)).mono ?_
      rintro e W4 ⟨rfl, hb4⟩
      have hT4 := zH ((uH hT1).of hb4)
      have hb5 := zH (below3 (uH hb1) hb4)
      clear hb4
      go_wp2_with fail
      refine (uH HS2 _ (uH hT4)).mono ?_
      rintro e W6 ⟨rfl, hb6⟩
      have hfin := zH (below3 (uH hb5) hb6)
      clear hb6
      go_wp2
      go_ret
      exact ⟨rfl, uH hfin⟩
end Go.Proofs.YtiknnobgoamgcaaGreatDoor
