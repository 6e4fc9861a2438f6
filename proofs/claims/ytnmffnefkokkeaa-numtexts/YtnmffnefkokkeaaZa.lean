/- Texts to the base 16: the contracts of num's pairs and Unhex. -/
import Derived.Test.YtnmffnefkokkeaaZ
import Derived.Deep.RegionLaw
import Derived.Deep.OwnRows
namespace Go.Proofs.Ytnmffnefkokkeaa
open Go.RowKit
theorem unhexL_len (l : List UInt8) : (unhexL l).length = l.length / 2 := by
  induction l using unhexL.induct with
  | case1 x y r ih => simp [unhexL, ih]; omega
  | case2 l h =>
    rw [unhexL.eq_2 l (fun x y r e => h x y r e)]
    match l, h with
    | [], _ => rfl
    | [_], _ => simp
    | a :: b :: r, h => exact absurd rfl (h a b r)
theorem unhexL_at (l : List UInt8) (k : Nat) (h : 2 * k + 1 < l.length) : (unhexL l)[k]? = some (UInt8.ofNat (vd l[2 * k].toNat * 16 + vd l[2 * k + 1].toNat)) := by
  induction k generalizing l with
  | zero =>
    match l, h with
    | a :: b :: r, _ => rfl
  | succ k ih =>
    match l, h with
    | a :: b :: r, h =>
      have := ih r (by simp at h; omega)
      show (unhexL r)[k]? = _
      rw [this]
      rfl
/-- The byte that the digits 2k and 2k + 1 stand for. -/
def pv (s : ByteArray) (k : Nat) : Int := ((unhexL s.data.toList).getD k 0).toNat
theorem pv_at (s : ByteArray) (k : Nat) (h : 2 * k + 1 < s.size) (h1 : vd s[2 * k].toNat ≠ 16) (h2 : vd s[2 * k + 1].toNat ≠ 16) : pv s k = (vd s[2 * k].toNat : Int) * 16 + vd s[2 * k + 1].toNat := by
  have e := unhexL_at s.data.toList k (by simpa using h)
  have l1 := vd_lt h1
  have l2 := vd_lt h2
  unfold pv
  rw [List.getD_eq_getElem?_getD, e, Option.getD_some]
  have e1 : s.data.toList[2 * k]'(by simp; omega) = s[2 * k] := rfl
  have e2 : s.data.toList[2 * k + 1]'(by simp; omega) = s[2 * k + 1] := rfl
  rw [e1, e2, UInt8.toNat_ofNat']
  omega
theorem wrap8 (x : Int) (h0 : 0 ≤ x) (h1 : x < 256) : IntKind.u8.wrap x = x := by
  simp only [IntKind.wrap, IntKind.signed, IntKind.bits]
  simp
  omega
theorem wrap64 (x : Int) (h0 : 0 ≤ x) (h1 : x < 9223372036854775808) : IntKind.i64.wrap x = x := by
  simp only [IntKind.wrap, IntKind.signed, IntKind.bits]
  simp
  omega
theorem or8 (a b : Nat) (ha : a < 16) (hb : b < 16) : bits BinOp.or IntKind.u8 ((a : Int) * 16) (b : Int) = (a : Int) * 16 + b := by
  rw [bits_join .u8 8 (by decide) (fun n h0 h1 => wrap8 n h0 (by simpa using h1)) 4 _ _ (by omega) (by omega) (by omega) (by omega) (by omega) (by omega)]
theorem row_step {s : ByteArray} {wr : World} {g k n : Nat} (h : wr.rowIs g 5 n (fun j => if j < k then .int .u8 (pv s j) else .int .u8 0)) {x : Int} (hx : x = pv s k) :
    (wr.setCell ⟨g, k, none⟩ (.int .u8 x)).drew.rowIs g 5 n (fun j => if j < k + 1 then .int .u8 (pv s j) else .int .u8 0) := by
  subst hx
  refine ((h.set k (.int .u8 (pv s k))).congr fun i hi => ?_).drew
  by_cases e : i = k
  · subst e
    rw [if_pos rfl, if_pos (Nat.lt_succ_self _)]
  · rw [if_neg e]
    by_cases e2 : i < k
    · rw [if_pos e2, if_pos (by omega)]
    · rw [if_neg e2, if_neg (by omega)]
theorem row_hc (s : ByteArray) {wr : World} {g : Nat} (k : Nat) (hk : k = s.size / 2) (h : wr.rowIs g 5 (s.size / 2) (fun j => if j < k then .int .u8 (pv s j) else .int .u8 0)) :
    wr.heap[g]? = some (.cells (hc (unhexL s.data.toList)) 5 (0, 0)) := by
  obtain ⟨c, hb, hn, hc'⟩ := h
  rw [hb]
  have hl := unhexL_len s.data.toList
  have hsz : s.data.toList.length = s.size := by simp
  have : c = hc (unhexL s.data.toList) := by
    apply Array.ext
    · rw [hc_size, hl, hn, hsz]
    · intro i h1 h2
      have : c[i]? = some (if i < k then Value.int IntKind.u8 (pv s i) else Value.int IntKind.u8 0) := hc' i (by omega)
      rw [if_pos (by omega), Array.getElem?_eq_getElem h1] at this
      rw [Option.some.inj this]
      have hi : i < (unhexL s.data.toList).length := by rw [hc_size] at h2; exact h2
      simp [hc, cellsL, pv, hi]
  rw [this]
section
set_option maxRecDepth 10000
set_option maxHeartbeats 400000
theorem pairs_any (s : ByteArray) (hg : s.size ≤ 281474976710656) (hd : s.data.toList.all isD = true) (w : World) : Calls Try.prog 51 #[.string s] w fun e w' =>
    e = .returned (.slice (some ⟨w.heap.size, 0, none⟩) (s.size / 2) (s.size / 2)) ∧ w'.heap[w.heap.size]? = some (.cells (hc (unhexL s.data.toList)) 5 (0, 0)) ∧ Below w.heap.size w w' := by
  have hmk := run_make_row' (P := Try.prog) 40 5 (.int .u8 0) 1 Try.underlying40 info5 rfl .i64 .i64 (s.size / 2) (by omega) (by omega)
  have hcast : ((s.size / 2 : Nat) : Int) = (s.size : Int) / 2 := by omega
  rw [hcast] at hmk
  have hn : s.size / 2 ≤ 9223372036854775807 := by omega
  go_enter Try.func51, Try.ntmps51
  go_wp2
  go_loopw [4, 11] (fun _ c wr => ∃ k : Nat, k ≤ s.size / 2 ∧ c = .int .i64 k ∧ Hid (wr.rowIs w.heap.size 5 (s.size / 2) (fun j => if j < k then .int .u8 (pv s j) else .int .u8 0)) ∧ Hid (Below w.heap.size w wr)) (fun _ c _ => (s.size / 2 - intOf c).toNat)
  case atStart => exact ⟨0, Nat.zero_le _, rfl, (World.rowIs_made w (.int .u8 0) (s.size / 2) 5).congr (fun i hi => by rw [if_neg (Nat.not_lt_zero _)]), hide ((Below.refl w.heap.size w).alloc (Nat.le_refl _) _)⟩
  case round =>
    obtain ⟨k, hk, rfl, hrow, hbel⟩ := hrel
    by_cases hlt : k < s.size / 2
    · have h1 : 2 * k < s.size := by omega
      have h2 : 2 * k + 1 < s.size := by omega
      have d1 : vd s[2 * k].toNat ≠ 16 := by
        have := List.all_eq_true.1 hd s[2 * k] (List.getElem_mem (l := s.data.toList) (n := 2 * k) (by simpa using h1))
        simpa [isD] using this
      have d2 : vd s[2 * k + 1].toNat ≠ 16 := by
        have := List.all_eq_true.1 hd s[2 * k + 1] (List.getElem_mem (l := s.data.toList) (n := 2 * k + 1) (by simpa using h2))
        simpa [isD] using this
      have hpv := hide (pv_at s k h2 d1 d2)
      generalize hb1 : s[2 * k] = b1 at d1 hpv
      generalize hb2 : s[2 * k + 1] = b2 at d2 hpv
      have H1 := hide fun W => digit_any b1.toNat d1 W
      have H2 := hide fun W => digit_any b2.toNat d2 W
      have l1 := vd_lt d1
      have l2 := vd_lt d2
      have hor := or8 _ _ l1 l2
      have hc0 := hrow.out.cell hlt
      have hf0 := hrow.out.frozen k
      have i0 : (0 : Int) ≤ 2 * k := by omega
      have i1 : 2 * (k : Int) < s.size := by omega
      have i2 : (0 : Int) ≤ 2 * k + 1 := by omega
      have i3 : 2 * (k : Int) + 1 < s.size := by omega
      have i4 : (0 : Int) ≤ k := by omega
      have w1 : IntKind.i64.wrap (2 * (k : Int)) = 2 * k := wrap64 _ (by omega) (by omega)
      have w2 : IntKind.i64.wrap (2 * (k : Int) + 1) = 2 * k + 1 := wrap64 _ (by omega) (by omega)
      have t1 : (2 * (k : Int)).toNat = 2 * k := by omega
      have t2 : (2 * (k : Int) + 1).toNat = 2 * k + 1 := by omega
      clear hd d1 d2
      go_wp2
      go_region_with (first | (go_at_call_of 74 (Value.int .u8 (b1.toNat : Int)); refine (H1.out _).mono ?_; rintro e w3 ⟨rfl, rfl⟩) | (go_at_call_of 74 (Value.int .u8 (b2.toNat : Int)); refine (H2.out _).mono ?_; rintro e w3 ⟨rfl, rfl⟩))
      all_goals go_wp2
      all_goals exact ⟨⟨k + 1, by omega, by go_num, hide (row_step hrow.out (hor.trans hpv.out.symm)), hide ((hbel.out.setCell (Nat.le_refl _) _).drew)⟩, by simp [intOf]; omega⟩
    · have hke : k = s.size / 2 := by omega
      have HR := hide (row_hc s k hke hrow.out)
      go_wp2
      go_ret
      exact ⟨rfl, HR.out, hbel.out⟩
end
end Go.Proofs.Ytnmffnefkokkeaa
