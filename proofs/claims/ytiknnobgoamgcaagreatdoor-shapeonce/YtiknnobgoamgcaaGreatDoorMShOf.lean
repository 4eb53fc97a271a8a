/-
  The tree and the shape of any text.
-/
import Derived.Test.YtiknnobgoamgcaaGreatDoorMShSame
import Derived.Test.YtiknnobgoamgcaaGreatDoorMPaScan
namespace Go.Proofs.YtiknnobgoamgcaaGreatDoor
open Go.RowKit Go.Lib Go.Sort
set_option linter.unusedSimpArgs false
set_option linter.unusedVariables false
set_option maxRecDepth 100000
theorem lenNm (k : Int) : (nameK k).data.toList.length ≤ 8 := by
  unfold nameK
  split
  · decide
  · rename_i h
    have key : ∀ j : Nat, j < 29 → (nmL.getD j ⟨#[]⟩).data.toList.length ≤ 8 := by decide
    exact key _ (by omega)
theorem lenTxt {M : Nat} {L : List Tk} (h : ∀ x ∈ L, x.s.size ≤ M) (t : Int) : (txtT L t).length ≤ M := by
  unfold txtT
  split
  · rename_i ht
    have hi : t.toNat < L.length := by omega
    have := h _ (List.mem_of_getElem? (tkA_in hi))
    rw [Array.length_toList]
    exact this
  · exact Nat.zero_le _
theorem lenO {M : Nat} {L : List Tk} (h : ∀ x ∈ L, x.s.size ≤ M) (k t : Int) : (shO L k t).length ≤ M + 10 := by
  have h1 := lenNm k
  have h2 := lenTxt h t
  simp only [shO, List.length_append, List.length_cons, List.length_nil]
  split <;> simp only [List.length_append, List.length_cons, List.length_nil] <;> omega
theorem lenF {M : Nat} {L : List Tk} (h : ∀ x ∈ L, x.s.size ≤ M) : ∀ f : F, (shF L f).length ≤ f.size * (M + 12)
  | .nil => Nat.zero_le _
  | .cons k t c r => by
    have h1 := lenO h k t
    have h2 := lenF h c
    have h3 := lenF h r
    simp only [shF, F.size, List.length_append, List.length_cons, List.length_nil, Nat.add_mul, Nat.one_mul]
    omega
/-- What a text's words come to. -/
def txA (s : ByteArray) : PR Nd := filA (scanA s).1 (20 * (scanA s).1.length + 7)
/-- A text's shape. -/
def shA (s : ByteArray) : Option (List UInt8) := if 0 ≤ (scanA s).2.2 then none else match txA s with
  | .ok n _ => some (shN (scanA s).1 n)
  | _ => none
/-- What Text answers of any text, beside its shape. -/
def TxIs (s : ByteArray) (r : Option (List UInt8)) : Prop := ∀ w : World, Calls Tryz.prog 16 #[.string s] w fun e w' => Below w.heap.size w w' ∧ match r with
  | none => ∃ z : Int, 0 ≤ z ∧ e = .returned (.tuple #[.agg #[.int .i64 0, .int .i64 0, .slice none 0 0], .slice none 0 0, .int .i64 z])
  | some x => ∃ (n : Nd) (L : List Tk) (a : Option Addr) (m c : Nat) (v : Value), e = .returned (.tuple #[.agg #[.int .i64 n.k, .int .i64 n.t, .slice a m c], v, .int .i64 (-1)]) ∧ SlQ (fun x => w.heap.size ≤ x) w' a m c n.c ∧ Toks w' v L ∧ shN L n = x ∧ x.length ≤ 10000000000 ∧ n.c.size ≤ 1000000
theorem text_all (s : ByteArray) (hs : s.size ≤ 10000) : OfIs s (shA s) ∧ TxIs s (shA s) := by
  by_cases h : 0 ≤ (scanA s).2.2
  · have e : shA s = none := by unfold shA; rw [if_pos h]
    rw [e]
    refine ⟨ofIs_bad s _ h (fun w => paText_scan s w (by omega) h), fun w => (paText_scan s w (by omega) h).mono ?_⟩
    rintro e w' ⟨rfl, hb⟩
    exact ⟨hb, _, h, rfl⟩
  · have hlen := scan_lend s h
    obtain ⟨hk, hl⟩ := scan_txt s h
    have hne : txA s ≠ .out := fil_end _ (Nat.le_refl _)
    have hf : 20 * (scanA s).1.length + 7 ≤ 900000 := by omega
    have e : shA s = match txA s with
      | .ok n _ => some (shN (scanA s).1 n)
      | _ => none := by unfold shA; rw [if_neg h]
    rw [e]
    cases hx : txA s with
    | out => exact absurd hx hne
    | bad j =>
      have hj := fil_bad hlen _ _ hx
      have hp : 0 ≤ (tkA (scanA s).1 j).p := (hk _ (List.mem_of_getElem? (tkA_in hj))).2
      have H := fun w => paText_bad s w (by omega) h hlen.1 (by omega) hf j hj hx
      refine ⟨ofIs_bad s _ hp H, fun w => (H w).mono ?_⟩
      rintro e w' ⟨rfl, hb⟩
      exact ⟨hb, _, hp, rfl⟩
    | ok n o =>
      obtain ⟨h1, h2, h3⟩ := fil_sz _ _ _ _ hx
      have hN : n.c.size ≤ 1000000 := by omega
      have hxl : (shN (scanA s).1 n).length ≤ 10000000000 := by
        have k1 := lenO (fun x hx => (hk x hx).1) n.k n.t
        have k2 := lenF (fun x hx => (hk x hx).1) n.c
        have k3 : n.c.size * (s.size + 1 + 12) ≤ 30000 * 10013 := Nat.mul_le_mul (by omega) (by omega)
        simp only [shN, List.length_append, List.length_cons, List.length_nil]
        omega
      refine ⟨ofIs_ok s (by omega) h hlen.1 (by omega) hf n o hx hN _ rfl hxl, fun w => (paText_ok s w (by omega) h hlen.1 (by omega) hf n o hx).mono ?_⟩
      rintro e w' ⟨a, m, c, v, rfl, k1, k2, k3⟩
      exact ⟨k3, n, _, a, m, c, v, rfl, k1, k2, rfl, hxl, hN⟩
theorem bs_beq (x y : List UInt8) : ((bs x).toList == (bs y).toList) = (x == y) := by
  rw [ByteArray.toList_eq, ByteArray.toList_eq]
  rfl
end Go.Proofs.YtiknnobgoamgcaaGreatDoor
