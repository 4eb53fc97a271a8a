/-
  A row of one operator: its words, its tree. No program.
-/
import Derived.Test.YtiknnobgoamgcaaGreatDoorMPcParse
import Derived.KernelRfl
namespace Go.Proofs.YtiknnobgoamgcaaGreatDoor
open Go.RowKit
set_option linter.unusedSimpArgs false
set_option linter.unusedVariables false
/-- A piece behind which r stands. -/
def okR (r : List UInt8) : List Pc → Bool
  | [] => true
  | p :: ps => p.okP (txts ps ++ r) && okR r ps
theorem okR_nil : ∀ ps : List Pc, okPs ps = okR [] ps
  | [] => rfl
  | p :: ps => by rw [okPs, okR, List.append_nil, okR_nil ps]
theorem okR_app (r : List UInt8) : ∀ a b : List Pc, okR r (a ++ b) = (okR (txts b ++ r) a && okR r b)
  | [], b => by simp [okR]
  | p :: a, b => by rw [List.cons_append, okR, okR, txts_app, okR_app r a b, List.append_assoc, Bool.and_assoc]
/-- Pieces without line ends. -/
def noNl : List Pc → Bool
  | [] => true
  | .nl :: _ => false
  | _ :: ps => noNl ps
def kps : List Pc → List KS
  | [] => []
  | p :: ps => p.kp ++ kps ps
theorem tokK_plain : ∀ (ps : List Pc) (K : List KS), noNl ps = true → tokK K ps = K ++ kps ps
  | [], K, _ => by simp [tokK, kps]
  | p :: ps, K, h => by
    cases p with
    | nl => cases h
    | _ => simp only [tokK, kps, tokK_plain ps _ (by exact h), List.append_assoc]
theorem tokK_nl (K : List KS) : tokK K [.nl] = semK K := rfl
theorem semK_snoc (K : List KS) (t : KS) : semK (K ++ [t]) = if endK t then K ++ [t] ++ [semT] else K ++ [t] := by
  unfold semK
  rw [List.getLast?_append]
  rfl
/-- So many of these pieces. -/
def repP (u : List Pc) : Nat → List Pc
  | 0 => []
  | n + 1 => u ++ repP u n
theorem repP_snoc (u : List Pc) : ∀ n : Nat, repP u (n + 1) = repP u n ++ u
  | 0 => by simp [repP]
  | n + 1 => by
    show u ++ repP u (n + 1) = u ++ repP u n ++ u
    rw [repP_snoc u n, List.append_assoc]
def repK (k : List KS) : Nat → List KS
  | 0 => []
  | n + 1 => k ++ repK k n
theorem kps_app : ∀ a b : List Pc, kps (a ++ b) = kps a ++ kps b
  | [], _ => rfl
  | p :: a, b => by simp only [List.cons_append, kps, kps_app a b, List.append_assoc]
theorem kps_rep (u : List Pc) : ∀ n : Nat, kps (repP u n) = repK (kps u) n
  | 0 => rfl
  | n + 1 => by rw [repP, kps_app, kps_rep u n, repK]
theorem noNl_app : ∀ a b : List Pc, noNl a = true → noNl b = true → noNl (a ++ b) = true
  | [], _, _, h => h
  | p :: a, b, h1, h2 => by
    cases p with
    | nl => cases h1
    | _ => exact noNl_app a b h1 h2
theorem noNl_rep (u : List Pc) (h : noNl u = true) : ∀ n : Nat, noNl (repP u n) = true
  | 0 => rfl
  | n + 1 => noNl_app _ _ h (noNl_rep u h n)
theorem plain_rep (u : List Pc) (h : u.all Pc.plain = true) : ∀ n : Nat, (repP u n).all Pc.plain = true
  | 0 => rfl
  | n + 1 => by rw [repP, List.all_append, h, plain_rep u h n]; rfl
theorem len_rep (u : List Pc) : ∀ n : Nat, (txts (repP u n)).length = n * (txts u).length
  | 0 => by simp [repP, txts]
  | n + 1 => by rw [repP, txts_app, List.length_append, len_rep u n, Nat.succ_mul, Nat.add_comm]
/-- Pieces that may stand one behind the other, and ahead of r. -/
theorem okR_rep (u : List Pc) (r : List UInt8) (h0 : okR r u = true) (h1 : ∀ q, okR (txts u ++ q) u = true) : ∀ n : Nat, okR r (repP u n) = true
  | 0 => rfl
  | n + 1 => by
    rw [repP, okR_app, okR_rep u r h0 h1 n, Bool.and_true]
    cases n with
    | zero => exact h0
    | succ n => rw [repP, txts_app, List.append_assoc]; exact h1 _
def headP : List Pc := [.wd [112, 97, 99, 107, 97, 103, 101], .bl, .wd [112], .nl, .wd [118, 97, 114], .bl, .wd [120], .bl, .wd [105, 110, 116], .bl, .op [61], .bl]
theorem headP_txt : txts headP = preE := rfl
theorem headP_tok : tokK [] headP = headE := by kernel_rfl
theorem headP_ok (q : List UInt8) : okR q headP = true := by kernel_rfl
theorem headP_plain : headP.all Pc.plain = true := by kernel_rfl
/-- A text whose expression is made of pieces. -/
theorem scan_expr (ps : List Pc) (t : KS) (K : List KS) (hk : kps ps = K ++ [t]) (ht : endK t = true) (hn : noNl ps = true) (ho : okR [10] ps = true) (hp : ps.all Pc.plain = true) (hl : (txts ps).length ≤ 1900) :
    (scanA (exT (txts ps))).2.2 = -1 ∧ (scanA (exT (txts ps))).1.map kap = headE ++ (kps ps ++ [semT, (7, ⟨#[]⟩)]) := by
  have he : exT (txts ps) = bs (txts (headP ++ ps ++ [.nl])) := by
    rw [txts_app, txts_app]
    rfl
  have h := scan_pcs (headP ++ ps ++ [.nl]) (by
    rw [okR_nil, okR_app, okR_app, headP_ok, List.append_nil]
    rw [show txts [Pc.nl] = [10] from rfl, ho]
    rfl) (by rw [List.all_append, List.all_append, headP_plain, hp]; rfl) (by
    rw [txts_app, txts_app, List.length_append, List.length_append, headP_txt]
    simp only [preE, txts, Pc.txt, List.length_cons, List.length_nil, List.append_nil]
    omega)
  unfold scanA
  rw [he]
  refine ⟨h.1, h.2.trans ?_⟩
  clear h he
  rw [tokK_app, tokK_app, headP_tok, tokK_plain ps _ hn, hk]
  have e1 : semK (headE ++ (K ++ [t])) = headE ++ (K ++ [t]) ++ [semT] := by rw [← List.append_assoc headE, semK_snoc, ht, if_pos rfl]
  have e2 : semK (headE ++ (K ++ [t]) ++ [semT]) = headE ++ (K ++ [t]) ++ [semT] := by rw [semK_snoc, if_neg (by decide)]
  rw [tokK_nl, e1, e2]
  simp only [List.append_assoc, List.cons_append, List.nil_append]
/-- The tree of a row. -/
def chT : Nat → Nd → Nat → Nd
  | 0, l, _ => l
  | n + 1, l, i => chT n ⟨24, (i : Nat), .cons l.k l.t l.c (.cons 20 ((i + 1 : Nat) : Int) .nil .nil)⟩ (i + 2)
def chC : Nat → Int → F → Prop
  | 0, k, c => k = 20
  | n + 1, k, c => k = 24 ∧ ∃ k1 t1 c1 t2 c2, c = .cons k1 t1 c1 (.cons 20 t2 c2 .nil) ∧ chC n k1 c1
theorem chT_C : ∀ (n m : Nat) (l : Nd) (i : Nat), chC m l.k l.c → chC (m + n) (chT n l i).k (chT n l i).c
  | 0, m, l, i, h => h
  | n + 1, m, l, i, h => by
    have := chT_C n (m + 1) ⟨24, (i : Nat), .cons l.k l.t l.c (.cons 20 ((i + 1 : Nat) : Int) .nil .nil)⟩ (i + 2) ⟨rfl, _, _, _, _, _, rfl, h⟩
    rw [show m + 1 + n = m + (n + 1) by omega] at this
    exact this
def semE : List KS := [semT, (7, ⟨#[]⟩)]
theorem chain_lab {o : List UInt8} (h1 : 0 < rankN (bs o)) (h2 : stopT (rankN (bs o)) (4, bs o) = true) : ∀ (n : Nat) (L : List Tk) (i f : Nat) (l : Nd), At L i (repK [(4, bs o), (1, bs [98])] n ++ semE) → n + 6 ≤ f → labA L f 0 l i 0 = .ok (chT n l i) (i + 2 * n)
  | 0, L, i, f, l, h, hf => by
    obtain ⟨f', rfl⟩ : ∃ f', f = f' + 1 := ⟨f - 1, by omega⟩
    exact lab_stop (low := 0) (t := semT) (K := [(7, ⟨#[]⟩)]) h (by decide)
  | n + 1, L, i, f, l, h, hf => by
    obtain ⟨f', rfl⟩ : ∃ f', f = f' + 5 := ⟨f - 5, by omega⟩
    have hr : rkA L i = rankN (bs o) := by rw [rkA_at h]; rfl
    have ha : absA L (f' + 4) (rankN (bs o)) (i + 1) 0 = .ok ⟨20, (i + 1 : Nat), .nil⟩ (i + 1 + 1) := by
      cases n with
      | zero => exact abs_name (t := semT) (K := [(7, ⟨#[]⟩)]) h.next (by simp only [stopT, Bool.and_eq_true]; exact ⟨rfl, decide_eq_true (by show (0 : Int) ≤ _; omega)⟩)
      | succ n => exact abs_name (t := (4, bs o)) h.next h2
    rw [labA, hr, if_neg (by omega), ha]
    simp only [PR.bind]
    have ih := chain_lab h1 h2 n L (i + 2) (f' + 4) ⟨24, (i : Nat), .cons l.k l.t l.c (.cons 20 ((i + 1 : Nat) : Int) .nil .nil)⟩ h.next.next (by omega)
    rw [show i + 2 * (n + 1) = i + 2 + 2 * n by omega]
    exact ih
theorem chain_abs {o : List UInt8} (h1 : 0 < rankN (bs o)) (h2 : stopT (rankN (bs o)) (4, bs o) = true) (n : Nat) (L : List Tk) (i f : Nat) (h : At L i ((1, bs [97]) :: (repK [(4, bs o), (1, bs [98])] n ++ semE))) (hf : n + 7 ≤ f) : absA L f 0 i 0 = .ok (chT n ⟨20, i, .nil⟩ (i + 1)) (i + 1 + 2 * n) := by
  obtain ⟨f', rfl⟩ : ∃ f', f = f' + 5 := ⟨f - 5, by omega⟩
  rw [absA, unr_name h]
  have hp : lprA L (f' + 1 + 1) ⟨20, i, .nil⟩ (i + 1) 0 = .ok ⟨20, i, .nil⟩ (i + 1) := by
    cases n with
    | zero => exact lpr_stop (low := 0) (t := semT) (K := [(7, ⟨#[]⟩)]) h.next (by decide)
    | succ n => exact lpr_stop (low := rankN (bs o)) h.next h2
  rw [hp]
  exact chain_lab h1 h2 n L (i + 1) (f' + 4) _ h.next (by omega)
end Go.Proofs.YtiknnobgoamgcaaGreatDoor
