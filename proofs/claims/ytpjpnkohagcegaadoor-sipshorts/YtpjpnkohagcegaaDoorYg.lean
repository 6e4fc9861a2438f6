/- The mathematics of a digest: in parts, byte by byte, as at once over a padded text. -/
import Derived.Test.YtpjpnkohagcegaaDoorYf
namespace Go.Proofs.YtpjpnkohagcegaaDoor
/-- The number of bytes, the lowest first. -/
def leN : List UInt8 → Nat
  | [] => 0
  | b :: r => b.toNat + 256 * leN r
theorem leN_app (a b : List UInt8) : leN (a ++ b) = leN a + 256 ^ a.length * leN b := by
  induction a with
  | nil => simp [leN]
  | cons x a ih =>
    rw [List.cons_append, leN, leN, ih, List.length_cons, Nat.pow_succ, Nat.mul_add, Nat.mul_comm (256 ^ a.length) 256, Nat.mul_assoc]
    omega
theorem leN_lt (a : List UInt8) : leN a < 256 ^ a.length := by
  induction a with
  | nil => simp [leN]
  | cons x a ih =>
    have := x.toNat_lt
    rw [leN, List.length_cons, Nat.pow_succ]
    omega
theorem leN_zeros (z : Nat) : leN (List.replicate z 0) = 0 := by
  induction z with
  | zero => rfl
  | succ z ih => rw [List.replicate_succ, leN, ih]; rfl
theorem or_u64 (a b r : Nat) (hr : r ≤ 7) (ha : a < 256 ^ r) (hb : b < 256) : UInt64.ofNat a ||| UInt64.ofNat (b * 2 ^ (8 * r)) = UInt64.ofNat (a + 256 ^ r * b) := by
  have e : (256 : Nat) ^ r = 2 ^ (8 * r) := by rw [show (256 : Nat) = 2 ^ 8 from rfl, ← Nat.pow_mul]
  have h1 : 2 ^ (8 * r) ≤ 2 ^ 56 := Nat.pow_le_pow_right (by decide) (by omega)
  have h2 : 2 ^ (8 * r) * b ≤ 2 ^ 56 * 255 := Nat.mul_le_mul h1 (by omega)
  rw [e] at ha ⊢
  rw [← UInt64.toNat_inj, UInt64.toNat_or]
  simp only [UInt64.toNat_ofNat']
  rw [Nat.mod_eq_of_lt (by omega), Nat.mod_eq_of_lt (by rw [Nat.mul_comm]; omega), Nat.mod_eq_of_lt (by omega), Nat.or_comm, Nat.mul_comm b, ← Nat.two_pow_add_eq_or_of_lt ha, Nat.add_comm]
/-- The eight bytes k of a text. -/
def chunk (l : List UInt8) (k : Nat) : List UInt8 := (l.drop (8 * k)).take 8
/-- Four words behind the first words of a text. -/
def vN (v : Q4) (l : List UInt8) : Nat → Q4
  | 0 => v
  | k + 1 => (vN v l k).mix (UInt64.ofNat (leN (chunk l k)))
theorem chunk_app (l r : List UInt8) (k : Nat) (h : 8 * k + 8 ≤ l.length) : chunk (l ++ r) k = chunk l k := by
  unfold chunk
  rw [List.drop_append_of_le_length (by omega), List.take_append_of_le_length (by rw [List.length_drop]; omega)]
theorem vN_app (v : Q4) (l r : List UInt8) (k : Nat) (h : 8 * k ≤ l.length) : vN v (l ++ r) k = vN v l k := by
  induction k with
  | zero => rfl
  | succ k ih => rw [vN, vN, ih (by omega), chunk_app l r k (by omega)]
/-- What is left of the first i bytes behind their whole words. -/
def left (l : List UInt8) (i : Nat) : List UInt8 := (l.take i).drop (8 * (i / 8))
theorem left_len (l : List UInt8) (i : Nat) (h : i ≤ l.length) : (left l i).length = i % 8 := by
  unfold left
  rw [List.length_drop, List.length_take]
  omega
theorem left_next (l : List UInt8) (i : Nat) (h : i < l.length) : (l.take (i + 1)).drop (8 * (i / 8)) = left l i ++ [l[i]] := by
  unfold left
  rw [List.take_add_one, List.getElem?_eq_getElem h, List.drop_append_of_le_length (by rw [List.length_take]; omega)]
  rfl
theorem puts_take (v : Q4) (l : List UInt8) (i : Nat) (h : i ≤ l.length) : Sm.puts ⟨v, 0, 0⟩ (l.take i) = ⟨vN v l (i / 8), UInt64.ofNat (leN (left l i)), i⟩ := by
  induction i with
  | zero => simp [Sm.puts, vN, left, leN]
  | succ i ih =>
    have hi : i < l.length := by omega
    have hl := left_len l i (by omega)
    have hlt := leN_lt (left l i)
    rw [hl] at hlt
    have hb := l[i].toNat_lt
    have htl : (Sm.tl ⟨vN v l (i / 8), UInt64.ofNat (leN (left l i)), i⟩ l[i]) = UInt64.ofNat (leN (left l i ++ [l[i]])) := by
      unfold Sm.tl
      simp only
      rw [or_u64 _ _ (i % 8) (by omega) hlt hb, leN_app, hl]
      simp [leN]
    rw [List.take_add_one, List.getElem?_eq_getElem hi, Option.toList_some, puts_snoc, ih (by omega)]
    unfold Sm.put
    simp only
    rw [htl]
    by_cases hm : (i + 1) % 8 = 0
    · rw [if_pos hm]
      have e1 : (i + 1) / 8 = i / 8 + 1 := by omega
      have e2 : left l i ++ [l[i]] = chunk l (i / 8) := by
        rw [← left_next l i hi, chunk, List.drop_take]
        congr 1
        omega
      have e3 : left l (i + 1) = [] := by
        apply List.eq_nil_of_length_eq_zero
        rw [left_len l (i + 1) h, hm]
      rw [e1, e2, e3, vN]
      rfl
    · rw [if_neg hm]
      have e1 : (i + 1) / 8 = i / 8 := by omega
      have e2 : left l (i + 1) = left l i ++ [l[i]] := by
        rw [← left_next l i hi, left, e1]
      rw [e1, e2]
/-- A text as SipHash pads it. -/
def padS (l : List UInt8) : List UInt8 := l ++ List.replicate (7 - l.length % 8) 0 ++ [UInt8.ofNat l.length]
theorem padS_len (l : List UInt8) : (padS l).length = 8 * (l.length / 8 + 1) := by
  simp [padS]
  omega
/-- The digest over the padded text. -/
def refM (k0 k1 : UInt64) (l : List UInt8) : UInt64 := (vN (begin4 k0 k1) (padS l) (l.length / 8 + 1)).fin
theorem sip_ref (k0 k1 : UInt64) (l : List UInt8) : sipM k0 k1 l = refM k0 k1 l := by
  have h := puts_take (begin4 k0 k1) l l.length (Nat.le_refl _)
  rw [List.take_length] at h
  have hl := left_len l l.length (Nat.le_refl _)
  have hlt := leN_lt (left l l.length)
  rw [hl] at hlt
  have hr : l.length % 8 ≤ 7 := by omega
  unfold sipM refM
  rw [h, vN, Sm.sum]
  simp only
  have e1 : vN (begin4 k0 k1) (padS l) (l.length / 8) = vN (begin4 k0 k1) l (l.length / 8) := by
    unfold padS
    rw [List.append_assoc, vN_app _ _ _ _ (by omega)]
  have e2 : chunk (padS l) (l.length / 8) = left l l.length ++ List.replicate (7 - l.length % 8) 0 ++ [UInt8.ofNat l.length] := by
    unfold chunk padS left
    rw [List.take_length, List.append_assoc, List.drop_append_of_le_length (by omega), List.take_of_length_le (by simp; omega), List.append_assoc]
  have e3 : leN (chunk (padS l) (l.length / 8)) = leN (left l l.length) + 256 ^ 7 * (l.length % 256) := by
    rw [e2, leN_app, leN_app, leN_zeros, List.length_append, List.length_replicate, hl, show l.length % 8 + (7 - l.length % 8) = 7 by omega]
    simp [leN]
  have e4 : l.length * 72057594037927936 % 18446744073709551616 = l.length % 256 * 2 ^ (8 * 7) := by
    simp only [Nat.reduceMul, Nat.reducePow]
    omega
  have hlt7 : leN (left l l.length) < 256 ^ 7 := Nat.lt_of_lt_of_le hlt (Nat.pow_le_pow_right (by decide) hr)
  rw [e1, e3, e4, or_u64 _ _ 7 (by omega) hlt7 (Nat.mod_lt _ (by decide))]
end Go.Proofs.YtpjpnkohagcegaaDoor
