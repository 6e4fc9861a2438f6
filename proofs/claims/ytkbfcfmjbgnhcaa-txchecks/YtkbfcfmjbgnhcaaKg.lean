/- What it means to take numbers, counts and texts off bytes. -/
import Derived.Test.YtkbfcfmjbgnhcaaKb
namespace Go.Proofs.Ytkbfcfmjbgnhcaa
open Go.RowKit
open Go.Deep
set_option linter.unusedVariables false
/-- The error behind a look at the bound. -/
def rm (n : Nat) (k e : Int) : Int := if 4096 < (n : Int) + k then (if e = 0 then 101 else e) else e
theorem rm_zero {n : Nat} {k e : Int} (h : rm n k e = 0) : e = 0 ∧ (n : Int) + k ≤ 4096 := by
  unfold rm at h
  split at h
  · split at h
    · omega
    · contradiction
  · exact ⟨h, by omega⟩
theorem rm_ok {n : Nat} {k : Int} (h : (n : Int) + k ≤ 4096) : rm n k 0 = 0 := by unfold rm; rw [if_neg (by omega)]
theorem lowL_leN : ∀ (k : Nat) (l : List UInt8), l.length = k → lowL (leN l) k = l
  | 0, l, h => by rw [List.length_eq_zero_iff.1 h]; rfl
  | k + 1, [], h => by simp at h
  | k + 1, x :: r, h => by
    have hx := x.toNat_lt
    have h1 : (x.toNat + 256 * leN r) % 256 = x.toNat := by omega
    have h2 : (x.toNat + 256 * leN r) / 256 = leN r := by omega
    rw [leN, lowL, h1, h2, lowL_leN k r (by simpa using h)]
    simp
theorem rtake_on (t : ByteArray) (n : Nat) (X Y : List UInt8) (hn : n ≤ t.size) (h : t.data.toList.drop n = X ++ Y) : rtake t (n : Int) 0 (X.length : Int) = (((n + X.length : Nat) : Int), 0, txt X) ∧ n + X.length ≤ t.size ∧ t.data.toList.drop (n + X.length) = Y := by
  have hl : t.data.toList.length = t.size := by simp
  have h1 : t.size - n = X.length + Y.length := by rw [← hl, ← List.length_drop, h, List.length_append]
  refine ⟨?_, by omega, by rw [← List.drop_drop, h, List.drop_left]⟩
  unfold rtake
  rw [if_neg (by decide), if_neg (by omega), if_neg (by omega)]
  have e1 : ((n : Int) + (X.length : Int)).toNat = n + X.length := by omega
  have e2 : t.extract n (n + X.length) = txt X := by
    apply ByteArray.ext
    apply Array.toList_inj.1
    rw [ByteArray.data_extract, Array.toList_extract]
    show (t.data.toList.drop n).take (n + X.length - n) = X
    rw [h, show n + X.length - n = X.length by omega, List.take_left]
  rw [Int.toNat_natCast, e1, e2]
  rfl
theorem leN_lowL (k n : Nat) (h : n < 256 ^ k) : leN (lowL n k) = n := by
  induction k generalizing n with
  | zero => simp [lowL, leN] at *; omega
  | succ k ih =>
    rw [lowL, leN, ih (n / 256) (by rw [Nat.pow_succ] at h; omega), UInt8.toNat_ofNat']
    omega
/-- So many bytes. -/
theorem tk_bytes (t : ByteArray) (n k : Nat) (e : Int) (hn : n ≤ t.size) (h4 : n ≤ 4096) : ∃ n' : Nat, (rtake t n (rm n k e) k).1 = (n' : Int) ∧ n' ≤ 4096 ∧ Tk (fun x : ByteArray => x.data.toList) (fun x => x.size = k) t n e (rtake t n (rm n k e) k).2.2 n' (rtake t n (rm n k e) k).2.1 := by
  have hl : t.data.toList.length = t.size := by simp
  by_cases h0 : (rtake t n (rm n k e) k).2.1 = 0
  · obtain ⟨g1, g2, g3, g4, g5⟩ := rtake_ok t n (rm n k e) k h0
    obtain ⟨r1, r2⟩ := rm_zero g1
    have e1 : ((n : Int) + (k : Int)).toNat = n + k := by omega
    rw [Int.toNat_natCast, e1] at g5
    have e2 : (t.extract n (n + k)).data.toList = (t.data.toList.drop n).take k := by
      rw [ByteArray.data_extract, Array.toList_extract, List.extract_eq_take_drop, show n + k - n = k by omega]
    have e3 : (t.extract n (n + k)).size = k := by
      have := congrArg List.length e2
      rw [List.length_take, List.length_drop, hl] at this
      have h5 : (t.extract n (n + k)).data.toList.length = (t.extract n (n + k)).size := Array.length_toList
      omega
    refine ⟨n + k, by omega, by omega, by omega, by omega, fun _ => ⟨r1, ?_, by rw [g5]; exact e3, by omega⟩, fun y Y he ho hd hl2 => ?_⟩
    · rw [g5]
      show _ = (t.extract n (n + k)).data.toList ++ _
      rw [e2, ← List.drop_drop, List.take_append_drop]
    · have hy : y.data.toList.length = k := by simpa using ho
      obtain ⟨q1, q2, q3⟩ := rtake_on t n y.data.toList Y hn hd
      rw [hy] at q1
      rw [g1, q1]
      exact ⟨rfl, rfl, by simp only [hy]⟩
  · refine ⟨n, (rtake_err t n (rm n k e) k h0).1, h4, Nat.le_refl _, hn, fun h => absurd h h0, fun y Y he ho hd hl2 => absurd ?_ h0⟩
    have hy : y.data.toList.length = k := by simpa using ho
    obtain ⟨q1, q2, q3⟩ := rtake_on t n y.data.toList Y hn hd
    rw [hy] at q1
    simp only [hy] at hl2
    rw [he, rm_ok (by omega), q1]
/-- The number of four bytes. -/
def n32 (x : ByteArray) : UInt32 := UInt32.ofNat (leN x.data.toList)
def n64 (x : ByteArray) : UInt64 := UInt64.ofNat (leN x.data.toList)
theorem n32_nat (x : ByteArray) (h : x.size ≤ 4) : (n32 x).toNat = leN x.data.toList := by
  have := leN_lt' x.data.toList 4 4294967296 (by simpa using h) (by decide)
  rw [n32, UInt32.toNat_ofNat', Nat.mod_eq_of_lt this]
theorem n64_nat (x : ByteArray) (h : x.size ≤ 8) : (n64 x).toNat = leN x.data.toList := by
  have := leN_lt' x.data.toList 8 18446744073709551616 (by simpa using h) (by decide)
  rw [n64, UInt64.toNat_ofNat', Nat.mod_eq_of_lt this]
theorem txt_list (l : List UInt8) : (txt l).data.toList = l := by simp [txt]
theorem Tk.n32 {t : ByteArray} {n n' : Nat} {e e' : Int} {x : ByteArray} (a : Tk (fun x : ByteArray => x.data.toList) (fun x => x.size = 4) t n e x n' e') : Tk (fun v : UInt32 => lowL v.toNat 4) (fun _ => True) t n e (n32 x) n' e' :=
  a.conv Ytkbfcfmjbgnhcaa.n32 (fun z hz => by rw [n32_nat z (by omega), lowL_leN 4 _ (by simpa using hz)]) (fun _ _ => trivial) (fun y _ => ⟨txt (lowL y.toNat 4), by
    apply UInt32.toNat_inj.1
    rw [n32_nat _ (by rw [txt_sz, lowL_len]; exact Nat.le_refl _), txt_list, leN_lowL 4 _ y.toNat_lt], by rw [txt_sz, lowL_len]⟩)
theorem Tk.n64 {t : ByteArray} {n n' : Nat} {e e' : Int} {x : ByteArray} (a : Tk (fun x : ByteArray => x.data.toList) (fun x => x.size = 8) t n e x n' e') : Tk (fun v : UInt64 => lowL v.toNat 8) (fun _ => True) t n e (n64 x) n' e' :=
  a.conv Ytkbfcfmjbgnhcaa.n64 (fun z hz => by rw [n64_nat z (by omega), lowL_leN 8 _ (by simpa using hz)]) (fun _ _ => trivial) (fun y _ => ⟨txt (lowL y.toNat 8), by
    apply UInt64.toNat_inj.1
    rw [n64_nat _ (by rw [txt_sz, lowL_len]; exact Nat.le_refl _), txt_list, leN_lowL 8 _ y.toNat_lt], by rw [txt_sz, lowL_len]⟩)
/-- An id out of bytes. -/
def idOf (x : ByteArray) : Id32 := if h : x.size = 32 then ⟨x.data.toList, by simpa using h⟩ else ⟨zeros, zeros_len⟩
theorem Tk.id {t : ByteArray} {n n' : Nat} {e e' : Int} {x : ByteArray} (a : Tk (fun x : ByteArray => x.data.toList) (fun x => x.size = 32) t n e x n' e') : Tk (fun v : Id32 => v.1) (fun _ => True) t n e (idOf x) n' e' :=
  a.conv idOf (fun z hz => by unfold idOf; rw [dif_pos hz]) (fun _ _ => trivial) (fun y _ => ⟨txt y.1, by
    have h : (txt y.1).size = 32 := by rw [txt_sz, y.2]
    unfold idOf
    rw [dif_pos h]
    exact Subtype.ext (txt_list y.1), by rw [txt_sz, y.2]⟩)
/-- A text behind its count. -/
theorem Tk.text {t : ByteArray} {n n1 n2 : Nat} {e e1 e2 : Int} {x : ByteArray} {c most : Nat} (a : Tk countL (fun k => k ≤ most) t n e c n1 e1) (b : Tk (fun x : ByteArray => x.data.toList) (fun x => x.size = c) t n1 e1 x n2 e2) : Tk txtL (fun x => x.size ≤ most) t n e x n2 e2 := by
  refine ⟨Nat.le_trans a.lo b.lo, b.hi, fun h => ?_, fun l Y he ho hd hl => ?_⟩
  · obtain ⟨h1, h2, h3, h4⟩ := b.sound h
    obtain ⟨g1, g2, g3, g4⟩ := a.sound h1
    exact ⟨g1, by rw [g2, h2, txtL, h3, List.append_assoc], by rw [h3]; exact g3, h4⟩
  · rw [txtL, List.append_assoc] at hd
    rw [txtL, List.length_append] at hl ⊢
    obtain ⟨g1, g2, g3⟩ := a.full l.size _ he ho hd (by omega)
    have hd2 : t.data.toList.drop n1 = l.data.toList ++ Y := by rw [g3, ← List.drop_drop, hd, List.drop_left]
    obtain ⟨h1, h2, h3⟩ := b.full l Y g1 g2.symm hd2 (by omega)
    exact ⟨h1, h2, by omega⟩
/-! ### counts -/
/-- How many bytes the count at the front of what is left needs, as far as its first byte tells it. -/
def ll (t : ByteArray) (n : Nat) : Int := if t.size ≤ n then 1 else if (t.data.toList.getD n 0).toNat = 253 then 3 else if (t.data.toList.getD n 0).toNat = 254 then 5 else if (t.data.toList.getD n 0).toNat = 255 then 9 else 1
theorem drop_at (t : ByteArray) (n : Nat) (h : n < t.size) : t.data.toList.drop n = t[n] :: t.data.toList.drop (n + 1) := by
  rw [List.drop_eq_getElem_cons (by simpa using h)]
  rfl
theorem takeC_inv (t : ByteArray) (n : Nat) (hn : n ≤ t.size) (h : (takeC t n).2.2 = 0) : ∃ c : Nat, (takeC t n).1 = (c : Int) ∧ (takeC t n).2.1 = ((n + (countL c).length : Nat) : Int) ∧ n + (countL c).length ≤ t.size ∧ t.data.toList.drop n = countL c ++ t.data.toList.drop (n + (countL c).length) ∧ ll t n = ((countL c).length : Int) := by
  have hl : t.data.toList.length = t.size := by simp
  by_cases he : n = t.size
  · subst he
    rw [takeC_end] at h
    simp at h
  have hlt : n < t.size := by omega
  have hx := t[n].toNat_lt
  by_cases h1 : t[n].toNat < 253
  · have e := takeC_one t n hlt h1
    have ec : countL t[n].toNat = [t[n]] := by
      unfold countL
      rw [if_pos h1]
      simp only [lowL]
      rw [Nat.mod_eq_of_lt hx]
      simp
    refine ⟨t[n].toNat, by rw [e], by rw [e, ec]; rfl, by rw [ec]; simp; omega, by rw [ec, drop_at t n hlt]; rfl, ?_⟩
    unfold ll
    rw [if_neg (by omega), getD_at t n hlt, if_neg (by omega), if_neg (by omega), if_neg (by omega), ec]
    rfl
  · obtain ⟨long, hb⟩ : ∃ long, (t[n].toNat = 253 ∧ long = 2) ∨ (t[n].toNat = 254 ∧ long = 4) ∨ (t[n].toNat = 255 ∧ long = 8) := by
      by_cases q1 : t[n].toNat = 253
      · exact ⟨2, .inl ⟨q1, rfl⟩⟩
      by_cases q2 : t[n].toNat = 254
      · exact ⟨4, .inr (.inl ⟨q2, rfl⟩)⟩
      exact ⟨8, .inr (.inr ⟨by omega, rfl⟩)⟩
    by_cases hc : t.size - n - 1 < long
    · rw [takeC_cut t n long hlt hb hc] at h
      simp at h
    by_cases hf : clong (numAt t n long) = 1 + long
    · have e := takeC_ok t n long hlt hb hc hf
      have hlen : (((t.data.toList.drop (n + 1)).take long).length) = long := by rw [List.length_take, List.length_drop, hl]; omega
      have hlow : lowL (numAt t n long) long = (t.data.toList.drop (n + 1)).take long := lowL_leN long _ hlen
      have ec : countL (numAt t n long) = t[n] :: lowL (numAt t n long) long := by
        unfold clong at hf
        unfold countL
        have hq : ∀ v : UInt8, t[n].toNat = v.toNat → t[n] = v := fun v hv => UInt8.toNat_inj.1 hv
        rcases hb with ⟨q, rfl⟩ | ⟨q, rfl⟩ | ⟨q, rfl⟩
        · rw [hq 253 q]
          by_cases z1 : numAt t n 2 < 253
          · rw [if_pos (by omega)] at hf; omega
          by_cases z2 : numAt t n 2 ≤ 65535
          · rw [if_neg z1, if_pos z2]
          · rw [if_neg (by omega), if_neg (by omega)] at hf; split at hf <;> omega
        · rw [hq 254 q]
          by_cases z1 : numAt t n 4 < 253
          · rw [if_pos (by omega)] at hf; omega
          by_cases z2 : numAt t n 4 ≤ 65535
          · rw [if_neg (by omega), if_pos (by omega)] at hf; omega
          by_cases z3 : numAt t n 4 ≤ 4294967295
          · rw [if_neg z1, if_neg z2, if_pos z3]
          · rw [if_neg (by omega), if_neg (by omega), if_neg (by omega)] at hf; omega
        · rw [hq 255 q]
          by_cases z1 : numAt t n 8 < 253
          · rw [if_pos (by omega)] at hf; omega
          by_cases z2 : numAt t n 8 ≤ 65535
          · rw [if_neg (by omega), if_pos (by omega)] at hf; omega
          by_cases z3 : numAt t n 8 ≤ 4294967295
          · rw [if_neg (by omega), if_neg (by omega), if_pos (by omega)] at hf; omega
          · rw [if_neg z1, if_neg z2, if_neg z3]
      have ecl : (countL (numAt t n long)).length = 1 + long := by rw [ec, List.length_cons, lowL_len]; omega
      refine ⟨numAt t n long, by rw [e], by rw [e, ecl]; simp only; omega, by omega, ?_, ?_⟩
      · rw [ecl, ec, drop_at t n hlt, hlow, List.cons_append, ← Nat.add_assoc, ← List.drop_drop (i := long) (j := n + 1), List.take_append_drop]
      · rw [ecl]
        unfold ll
        rw [if_neg (by omega), getD_at t n hlt]
        rcases hb with ⟨q, rfl⟩ | ⟨q, rfl⟩ | ⟨q, rfl⟩ <;> rw [q] <;> simp
    · rw [takeC_form t n long hlt hb hc hf] at h
      simp at h
end Go.Proofs.Ytkbfcfmjbgnhcaa
