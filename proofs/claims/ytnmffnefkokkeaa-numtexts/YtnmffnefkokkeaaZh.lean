/- What is told to the base 16 is read again. -/
import Derived.Test.YtnmffnefkokkeaaZg
namespace Go.Proofs.Ytnmffnefkokkeaa
open Go.RowKit
theorem vd_hexb (n : Nat) (h : n < 16) : vd (hexb n).toNat = n := by
  have : ∀ n : Fin 16, vd (hexb n.val).toNat = n.val := by decide
  exact this ⟨n, h⟩
theorem isD_hexb (n : Nat) (h : n < 16) : isD (hexb n) = true := by
  unfold isD
  rw [vd_hexb n h]
  simp
  omega
theorem unhex_hex (l : List UInt8) : unhexL (hexL l) = l := by
  induction l with
  | nil => rfl
  | cons b r ih =>
    have hb := b.toNat_lt
    simp only [hexL, unhexL]
    rw [vd_hexb _ (by omega), vd_hexb _ (by omega), ih, show b.toNat / 16 * 16 + b.toNat % 16 = b.toNat by omega, UInt8.ofNat_toNat]
theorem hex_isD (l : List UInt8) : (hexL l).all isD = true := by
  induction l with
  | nil => rfl
  | cons b r ih =>
    have hb := b.toNat_lt
    simp only [hexL, List.all_cons]
    rw [isD_hexb _ (by omega), isD_hexb _ (by omega), ih]
    rfl
theorem parseH_text (h : List UInt8) (hl : h.length = 32) : parseH ⟨(hexL h.reverse).toArray⟩ = h ∧ (parseS ⟨(hexL h.reverse).toArray⟩).2 = -1 := by
  have hz : (⟨(hexL h.reverse).toArray⟩ : ByteArray).size = 64 := by
    show (hexL h.reverse).toArray.size = 64
    rw [List.size_toArray, hexL_len, List.length_reverse, hl]
  have e := parseS_ok ⟨(hexL h.reverse).toArray⟩ hz (by simpa using hex_isD h.reverse)
  refine ⟨?_, by rw [e]⟩
  unfold parseH
  rw [if_pos (by rw [e]; exact (by decide : (-1 : Int) < 0))]
  show (unhexL (hexL h.reverse)).reverse = h
  rw [unhex_hex, List.reverse_reverse]
end Go.Proofs.Ytnmffnefkokkeaa
