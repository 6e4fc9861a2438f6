/- Bytes to the base 16: the contracts of num.Hex, isDigit, digit, goodDigits and pairs. -/
import Derived.Test.YtempdhoccilhdaaDoorG
namespace Go.Proofs.YtempdhoccilhdaaDoor
open Go.RowKit
theorem step_app {w : World} {ops : Array Oper} {o : Oper} {a : Act} {K : Act → World → Prop} {Q : Exit → Act → World → Prop} {E : Prop} (hgd : o.guard = none) (s x : Operand)
    (ho : o.op = .call { callee := .builtin .append, args := #[s, x], argTypes := #[46, 46] })
    (v : Value) (l : List UInt8) (hs : a.eval s = v) (hown : Own w v l)
    (ad : Addr) (m c : Nat) (news : List UInt8) (hx : a.eval x = .slice (some ad) m c) (hm : m = news.length) (hnews : ∀ j u, (cellsL news)[j]? = some u → w.cell? (ad.add j) = some u) (hsm : l.length + m ≤ 140737488355328)
    (h : ∀ v' w', Own w' v' (l ++ news) → Onto w w' v v' → K (a.put o.dst v') w') :
    if Region.wanted o (yielded ops a.tmps) = true then Oper.wp Tryd.prog o a w K Q else E := by
  have hw : Region.wanted o (yielded ops a.tmps) = true := by simp [Region.wanted, hgd]
  rw [if_pos hw]
  obtain ⟨v', w', hr, h2, h3⟩ := run_app (ty := o.type) hown ad m c news hm hnews hsm
  unfold Oper.wp execOp
  simp only [ho, resolve, invoke, builtin, Sem.run_bind, Sem.run_pure, Result.andThen_ok, List.map_toArray, List.map_cons, List.map_nil, hs, hx, hr]
  exact h v' w' h2 h3

def hexb (n : Nat) : UInt8 := if n < 10 then UInt8.ofNat (48 + n) else UInt8.ofNat (87 + n)
def hexL : List UInt8 → List UInt8
  | [] => []
  | b :: r => hexb (b.toNat / 16) :: hexb (b.toNat % 16) :: hexL r
theorem hexL_len (l : List UInt8) : (hexL l).length = 2 * l.length := by
  induction l with
  | nil => rfl
  | cons b r ih => simp [hexL, ih]; omega
theorem hexL_app (a b : List UInt8) : hexL (a ++ b) = hexL a ++ hexL b := by
  induction a with
  | nil => rfl
  | cons x r ih => simp [hexL, ih]
theorem take_snoc (s : ByteArray) (k : Nat) (h : k < s.size) : s.data.toList.take (k + 1) = s.data.toList.take k ++ [s[k]] := by
  rw [List.take_succ_eq_append_getElem (by simpa using h)]; rfl
theorem hexL_snoc (s : ByteArray) (k : Nat) (h : k < s.size) : hexL (s.data.toList.take (k + 1)) = hexL (s.data.toList.take k) ++ [hexb (s[k].toNat / 16), hexb (s[k].toNat % 16)] := by
  rw [take_snoc s k h, hexL_app]; rfl
theorem dig_all : ∀ n : Fin 16, (⟨#[48, 49, 50, 51, 52, 53, 54, 55, 56, 57, 97, 98, 99, 100, 101, 102]⟩ : ByteArray)[n.val] = hexb n.val := by decide
theorem dig_at (n : Nat) (h : n < 16) (z : Int) (hz : z = n) (hh : z.toNat < (⟨#[48, 49, 50, 51, 52, 53, 54, 55, 56, 57, 97, 98, 99, 100, 101, 102]⟩ : ByteArray).size) :
    (((⟨#[48, 49, 50, 51, 52, 53, 54, 55, 56, 57, 97, 98, 99, 100, 101, 102]⟩ : ByteArray)[z.toNat].toNat : Nat) : Int) = ((hexb n).toNat : Int) := by
  subst hz
  have := dig_all ⟨n, h⟩
  simp only [Int.toNat_natCast]
  rw [← this]
theorem two_new (w : World) (x y : Int) (b c : UInt8) (hx : x = b.toNat) (hy : y = c.toNat) : ∀ j u, (cellsL [b, c])[j]? = some u → (w.alloc (.cells #[.int .u8 x, .int .u8 y] 5)).cell? ((⟨w.heap.size, 0, none⟩ : Addr).add j) = some u := by
  subst hx hy
  exact cell_two_new _ _ _ _

set_option maxRecDepth 10000 in
set_option maxHeartbeats 400000 in
theorem hex_any (s : ByteArray) (w : World) (hs : s.size ≤ 35184372088832) :
    Calls Tryd.prog 50 #[.string s] w fun e w' => e = .returned (.string ⟨(hexL s.data.toList).toArray⟩) ∧ Below w.heap.size w w' := by
  obtain ⟨i0, hi, hz0, hz1, hz2⟩ := info_parts info5
  go_enter Tryd.func50, Tryd.ntmps50
  go_wp2_with (at_make; refine wpList_make_own _ rfl _ _ 46 rfl 0 5 i0 (.int .u8 0) 1 Tryd.underlying46 hi hz0 hz1 _ _ _ (2 * s.size) rfl rfl (by omega) (by rw [hz2]; omega) (by unfold maxLen; omega) (Nat.zero_le _) ?_; intro w1 hown1 hgrow1)
  go_loopw [3, 4, 11] (fun v _ i wr => ∃ k : Nat, k ≤ s.size ∧ i = .int .i64 k ∧ Own wr v (hexL (s.data.toList.take k)) ∧ Below w.heap.size w wr ∧ ∀ g, v.ownBlock = some g → w.heap.size ≤ g) (fun _ _ i _ => (s.size - intOf i).toNat)
  case atStart => exact ⟨0, Nat.zero_le _, rfl, hown1, (Below.refl _ _).grown hgrow1 (Nat.le_refl _) (by intro k hk; cases hk), by intro g hg; cases hg; exact Nat.le_refl _⟩
  case round =>
    obtain ⟨k, hk, rfl, ho, hbel, hfar⟩ := hrel
    by_cases hlt : k < s.size
    · have hx := s[k].toNat_lt
      have hlen : (hexL (s.data.toList.take k)).length ≤ 70368744177664 := by rw [hexL_len]; simp; omega
      have hi1 : 0 ≤ (s[k].toNat : Int) / 16 ∧ (s[k].toNat : Int) / 16 < 16 := by omega
      have hi2 : 0 ≤ (s[k].toNat : Int) % 16 ∧ (s[k].toNat : Int) % 16 < 16 := by omega
      have hand : bits BinOp.and IntKind.u8 (s[k].toNat : Int) 15 = (s[k].toNat : Int) % 16 := u8_and15 _ (by omega) (by omega)
      have hk0 : (0 : Int) ≤ k := by omega
      have hk1 : (k : Int) < s.size := by omega
      go_wp2
      go_region_law ((refine step_app (by rfl) _ _ (by rfl) _ _ (by rfl) (ho.alloc _) ⟨_, 0, none⟩ 2 2 [hexb (s[k].toNat / 16), hexb (s[k].toNat % 16)] (by rfl) rfl (two_new _ _ _ _ _ (dig_at _ (by omega) _ (by omega) _) (dig_at _ (by omega) _ (by omega) _)) (by simp; omega) ?_; intro v' w3 hown' hon3))
      all_goals go_wp2
      all_goals
        have hon : Onto wr w3 u3 v' := (((Onto.refl _ _).alloc _).drew).trans hon3
        exact ⟨⟨k + 1, by omega, by go_num, by rw [hexL_snoc s k hlt]; exact hown', hbel.trans (hon.below hbel.size hfar), hon.far hbel.size hfar⟩, by simp [intOf]; omega⟩
    · have hk' : s.data.toList.take k = s.data.toList := List.take_of_length_le (by simp; omega)
      rw [hk'] at ho
      have hcv := conv_own ho
      go_wp2
      go_ret
      exact ⟨rfl, hbel⟩
/-- What a digit says; 16: it is none. -/
def vd (c : Nat) : Nat := if 48 ≤ c ∧ c ≤ 57 then c - 48 else if 97 ≤ c ∧ c ≤ 102 then c - 87 else 16
def isD (b : UInt8) : Bool := vd b.toNat != 16
/-- How many digits stand at the front. -/
def good (l : List UInt8) : Nat := (l.takeWhile isD).length
def unhexL : List UInt8 → List UInt8
  | x :: y :: r => UInt8.ofNat (vd x.toNat * 16 + vd y.toNat) :: unhexL r
  | _ => []
theorem vd_lt {c : Nat} (h : vd c ≠ 16) : vd c < 16 := by unfold vd at *; split <;> (try split) <;> simp_all <;> omega
theorem good_le (l : List UInt8) : good l ≤ l.length := by unfold good; exact (List.takeWhile_sublist _).length_le
section
set_option maxRecDepth 10000
theorem isDigit_any (c : Nat) (w : World) : Calls Tryd.prog 53 #[.int .u8 c] w fun e w' => e = .returned (.bool (vd c != 16)) ∧ w' = w := by
  by_cases h1 : 48 ≤ c ∧ c ≤ 57
  · have e : (vd c != 16) = true := by unfold vd; rw [if_pos h1]; simp; omega
    rw [e]
    obtain ⟨a, b⟩ := h1
    have a' : (48 : Int) ≤ c := by omega
    have b' : (c : Int) ≤ 57 := by omega
    clear e
    go_enter Tryd.func53, Tryd.ntmps53
    go_wp2
    go_ret
    exact ⟨rfl, rfl⟩
  by_cases h2 : 97 ≤ c ∧ c ≤ 102
  · have e : (vd c != 16) = true := by unfold vd; rw [if_neg h1, if_pos h2]; simp; omega
    rw [e]
    obtain ⟨a, b⟩ := h2
    have a' : (97 : Int) ≤ c := by omega
    have b' : (c : Int) ≤ 102 := by omega
    have c' : (48 : Int) ≤ c := by omega
    have d' : ¬ (c : Int) ≤ 57 := by omega
    clear e h1
    go_enter Tryd.func53, Tryd.ntmps53
    go_wp2
    go_ret
    exact ⟨rfl, rfl⟩
  · have e : (vd c != 16) = false := by unfold vd; rw [if_neg h1, if_neg h2]; rfl
    rw [e]
    clear e
    by_cases ha : c < 48
    · have a' : ¬ (48 : Int) ≤ c := by omega
      have b' : ¬ (97 : Int) ≤ c := by omega
      clear h1 h2
      go_enter Tryd.func53, Tryd.ntmps53
      go_wp2
      go_ret
      exact ⟨rfl, rfl⟩
    · have a' : (48 : Int) ≤ c := by omega
      have b' : ¬ (c : Int) ≤ 57 := by omega
      by_cases hb : c < 97
      · have c' : ¬ (97 : Int) ≤ c := by omega
        clear h1 h2
        go_enter Tryd.func53, Tryd.ntmps53
        go_wp2
        go_ret
        exact ⟨rfl, rfl⟩
      · have c' : (97 : Int) ≤ c := by omega
        have d' : ¬ (c : Int) ≤ 102 := by omega
        clear h1 h2
        go_enter Tryd.func53, Tryd.ntmps53
        go_wp2
        go_ret
        exact ⟨rfl, rfl⟩
theorem digit_any (c : Nat) (hc : vd c ≠ 16) (w : World) : Calls Tryd.prog 54 #[.int .u8 c] w fun e w' => e = .returned (.int .u8 (vd c)) ∧ w' = w := by
  by_cases h1 : 48 ≤ c ∧ c ≤ 57
  · have e : (vd c : Int) = (c : Int) - 48 := by unfold vd; rw [if_pos h1]; omega
    rw [e]
    have a' : (48 : Int) ≤ c := by omega
    have b' : (c : Int) ≤ 57 := by omega
    clear e hc
    go_enter Tryd.func54, Tryd.ntmps54
    go_wp2
    go_ret
    exact ⟨rfl, rfl⟩
  have h2 : 97 ≤ c ∧ c ≤ 102 := by
    unfold vd at hc
    rw [if_neg h1] at hc
    by_cases h : 97 ≤ c ∧ c ≤ 102
    · exact h
    · rw [if_neg h] at hc; exact absurd rfl hc
  have e : (vd c : Int) = (c : Int) - 97 + 10 := by unfold vd; rw [if_neg h1, if_pos h2]; omega
  rw [e]
  have a' : (97 : Int) ≤ c := by omega
  have b' : (c : Int) ≤ 102 := by omega
  have d' : ¬ (c : Int) ≤ 57 := by omega
  clear e hc h1 h2
  go_enter Tryd.func54, Tryd.ntmps54
  go_wp2
  go_ret
  exact ⟨rfl, rfl⟩
end
theorem good_at (l : List UInt8) (k : Nat) (hk : k ≤ l.length) (h1 : (l.take k).all isD = true) (h2 : ∀ h : k < l.length, isD l[k] = false) : good l = k := by
  induction l generalizing k with
  | nil => simp at hk; subst hk; rfl
  | cons b r ih =>
    cases k with
    | zero =>
      have := h2 (by simp)
      simp at this
      simp [good, this]
    | succ k =>
      simp only [List.take_succ_cons, List.all_cons, Bool.and_eq_true] at h1
      have := ih k (by simpa using hk) h1.2 (fun h => h2 (by simpa using h))
      unfold good at this ⊢
      rw [List.takeWhile_cons, if_pos h1.1, List.length_cons, this]
theorem all_snoc (s : ByteArray) (k : Nat) (h : k < s.size) (ha : (s.data.toList.take k).all isD = true) (hb : isD s[k] = true) : (s.data.toList.take (k + 1)).all isD = true := by
  rw [take_snoc s k h, List.all_append, ha]
  simp [hb]
section
set_option maxRecDepth 10000
set_option maxHeartbeats 400000
theorem goodDigits_any (s : ByteArray) (hs : s.size ≤ maxLen) (w : World) : Calls Tryd.prog 51 #[.string s] w fun e w' => e = .returned (.int .i64 (good s.data.toList)) ∧ w' = w := by
  unfold maxLen at hs
  go_enter Tryd.func51, Tryd.ntmps51
  go_wp2
  go_loop [3, 6] (fun _ c => ∃ k : Nat, k ≤ s.size ∧ c = .int .i64 k ∧ Hid ((s.data.toList.take k).all isD = true)) (fun _ c => (s.size - intOf c).toNat)
  case atStart => exact ⟨0, Nat.zero_le _, rfl, by simp [Hid]⟩
  case round =>
    obtain ⟨k, hk, rfl, ha⟩ := hrel
    by_cases hlt : k < s.size
    · by_cases hd : isD s[k] = true
      · have hd' : (vd s[k].toNat != 16) = true := hd
        have HS := hide (all_snoc s k hlt ha.out hd)
        clear hd
        go_wp2_with (go_at_call 53; refine (isDigit_any _ _).mono ?_; rintro e w1 ⟨rfl, rfl⟩)
        exact ⟨⟨k + 1, by omega, by go_num, HS.out⟩, by simp [intOf]; omega⟩
      · have hd' : (vd s[k].toNat != 16) = false := by
          have : isD s[k] = false := by simpa using hd
          exact this
        have HG := hide (good_at s.data.toList k (by simpa using hk) ha.out (fun h => by
          have : isD s[k] = false := by simpa using hd
          exact this))
        clear hd
        go_wp2_with (go_at_call 53; refine (isDigit_any _ _).mono ?_; rintro e w1 ⟨rfl, rfl⟩)
        go_ret
        exact ⟨by rw [HG.out]; rfl, rfl⟩
    · have hke : k = s.size := by omega
      have HG := hide (good_at s.data.toList k (by simpa using hk) ha.out (fun h => absurd h (by simp; omega)))
      go_wp2
      go_ret
      exact ⟨by rw [HG.out, hke]; rfl, rfl⟩
end
theorem unhexL_len (l : List UInt8) : (unhexL l).length = l.length / 2 := by
  induction l using unhexL.induct with
  | case1 x y r ih => simp [unhexL, ih]; omega
  | case2 l h =>
    rw [unhexL.eq_2 l (fun x y r e => h x y r e)]
    match l, h with
    | [], _ => rfl
    | [_], _ => simp
    | a :: b :: r, h => exact absurd rfl (h a b r)
theorem unhexL_at (l : List UInt8) (k : Nat) (h : 2 * k + 1 < l.length) : (unhexL l)[k]? = some (UInt8.ofNat (vd l[2 * k].toNat * 16 + vd l[2 * k + 1].toNat)) := by
  induction k generalizing l with
  | zero =>
    match l, h with
    | a :: b :: r, _ => rfl
  | succ k ih =>
    match l, h with
    | a :: b :: r, h =>
      have := ih r (by simp at h; omega)
      show (unhexL r)[k]? = _
      rw [this]
      rfl
/-- The byte that the digits 2k and 2k + 1 stand for. -/
def pv (s : ByteArray) (k : Nat) : Int := ((unhexL s.data.toList).getD k 0).toNat
theorem pv_at (s : ByteArray) (k : Nat) (h : 2 * k + 1 < s.size) (h1 : vd s[2 * k].toNat ≠ 16) (h2 : vd s[2 * k + 1].toNat ≠ 16) : pv s k = (vd s[2 * k].toNat : Int) * 16 + vd s[2 * k + 1].toNat := by
  have e := unhexL_at s.data.toList k (by simpa using h)
  have l1 := vd_lt h1
  have l2 := vd_lt h2
  unfold pv
  rw [List.getD_eq_getElem?_getD, e, Option.getD_some]
  have e1 : s.data.toList[2 * k]'(by simp; omega) = s[2 * k] := rfl
  have e2 : s.data.toList[2 * k + 1]'(by simp; omega) = s[2 * k + 1] := rfl
  rw [e1, e2, UInt8.toNat_ofNat']
  omega
theorem wrap8 (x : Int) (h0 : 0 ≤ x) (h1 : x < 256) : IntKind.u8.wrap x = x := by
  simp only [IntKind.wrap, IntKind.signed, IntKind.bits]
  simp
  omega
theorem wrap64 (x : Int) (h0 : 0 ≤ x) (h1 : x < 9223372036854775808) : IntKind.i64.wrap x = x := by
  simp only [IntKind.wrap, IntKind.signed, IntKind.bits]
  simp
  omega
theorem or8 (a b : Nat) (ha : a < 16) (hb : b < 16) : bits BinOp.or IntKind.u8 ((a : Int) * 16) (b : Int) = (a : Int) * 16 + b := by
  rw [bits_join .u8 8 (by decide) (fun n h0 h1 => wrap8 n h0 (by simpa using h1)) 4 _ _ (by omega) (by omega) (by omega) (by omega) (by omega) (by omega)]
theorem row_step {s : ByteArray} {wr : World} {g k n : Nat} (h : wr.rowIs g 5 n (fun j => if j < k then .int .u8 (pv s j) else .int .u8 0)) {x : Int} (hx : x = pv s k) :
    (wr.setCell ⟨g, k, none⟩ (.int .u8 x)).drew.rowIs g 5 n (fun j => if j < k + 1 then .int .u8 (pv s j) else .int .u8 0) := by
  subst hx
  refine ((h.set k (.int .u8 (pv s k))).congr fun i hi => ?_).drew
  by_cases e : i = k
  · subst e
    rw [if_pos rfl, if_pos (Nat.lt_succ_self _)]
  · rw [if_neg e]
    by_cases e2 : i < k
    · rw [if_pos e2, if_pos (by omega)]
    · rw [if_neg e2, if_neg (by omega)]
theorem row_hc (s : ByteArray) {wr : World} {g : Nat} (k : Nat) (hk : k = s.size / 2) (h : wr.rowIs g 5 (s.size / 2) (fun j => if j < k then .int .u8 (pv s j) else .int .u8 0)) :
    wr.heap[g]? = some (.cells (hc (unhexL s.data.toList)) 5 (0, 0)) := by
  obtain ⟨c, hb, hn, hc'⟩ := h
  rw [hb]
  have hl := unhexL_len s.data.toList
  have hsz : s.data.toList.length = s.size := by simp
  have : c = hc (unhexL s.data.toList) := by
    apply Array.ext
    · rw [hc_size, hl, hn, hsz]
    · intro i h1 h2
      have : c[i]? = some (if i < k then Value.int IntKind.u8 (pv s i) else Value.int IntKind.u8 0) := hc' i (by omega)
      rw [if_pos (by omega), Array.getElem?_eq_getElem h1] at this
      rw [Option.some.inj this]
      have hi : i < (unhexL s.data.toList).length := by rw [hc_size] at h2; exact h2
      simp [hc, cellsL, pv, hi]
  rw [this]
section
set_option maxRecDepth 10000
set_option maxHeartbeats 400000
theorem pairs_any (s : ByteArray) (hg : s.size ≤ 281474976710656) (hd : s.data.toList.all isD = true) (w : World) : Calls Tryd.prog 52 #[.string s] w fun e w' =>
    e = .returned (.slice (some ⟨w.heap.size, 0, none⟩) (s.size / 2) (s.size / 2)) ∧ w'.heap[w.heap.size]? = some (.cells (hc (unhexL s.data.toList)) 5 (0, 0)) ∧ Below w.heap.size w w' := by
  have hmk := run_make_row' (P := Tryd.prog) 46 5 (.int .u8 0) 1 Tryd.underlying46 info5 rfl .i64 .i64 (s.size / 2) (by omega) (by omega)
  have hcast : ((s.size / 2 : Nat) : Int) = (s.size : Int) / 2 := by omega
  rw [hcast] at hmk
  have hn : s.size / 2 ≤ 9223372036854775807 := by omega
  go_enter Tryd.func52, Tryd.ntmps52
  go_wp2
  go_loopw [4, 11] (fun _ c wr => ∃ k : Nat, k ≤ s.size / 2 ∧ c = .int .i64 k ∧ Hid (wr.rowIs w.heap.size 5 (s.size / 2) (fun j => if j < k then .int .u8 (pv s j) else .int .u8 0)) ∧ Hid (Below w.heap.size w wr)) (fun _ c _ => (s.size / 2 - intOf c).toNat)
  case atStart => exact ⟨0, Nat.zero_le _, rfl, (World.rowIs_made w (.int .u8 0) (s.size / 2) 5).congr (fun i hi => by rw [if_neg (Nat.not_lt_zero _)]), hide ((Below.refl w.heap.size w).alloc (Nat.le_refl _) _)⟩
  case round =>
    obtain ⟨k, hk, rfl, hrow, hbel⟩ := hrel
    by_cases hlt : k < s.size / 2
    · have h1 : 2 * k < s.size := by omega
      have h2 : 2 * k + 1 < s.size := by omega
      have d1 : vd s[2 * k].toNat ≠ 16 := by
        have := List.all_eq_true.1 hd s[2 * k] (List.getElem_mem (l := s.data.toList) (n := 2 * k) (by simpa using h1))
        simpa [isD] using this
      have d2 : vd s[2 * k + 1].toNat ≠ 16 := by
        have := List.all_eq_true.1 hd s[2 * k + 1] (List.getElem_mem (l := s.data.toList) (n := 2 * k + 1) (by simpa using h2))
        simpa [isD] using this
      have hpv := hide (pv_at s k h2 d1 d2)
      generalize hb1 : s[2 * k] = b1 at d1 hpv
      generalize hb2 : s[2 * k + 1] = b2 at d2 hpv
      have H1 := hide fun W => digit_any b1.toNat d1 W
      have H2 := hide fun W => digit_any b2.toNat d2 W
      have l1 := vd_lt d1
      have l2 := vd_lt d2
      have hor := or8 _ _ l1 l2
      have hc0 := hrow.out.cell hlt
      have hf0 := hrow.out.frozen k
      have i0 : (0 : Int) ≤ 2 * k := by omega
      have i1 : 2 * (k : Int) < s.size := by omega
      have i2 : (0 : Int) ≤ 2 * k + 1 := by omega
      have i3 : 2 * (k : Int) + 1 < s.size := by omega
      have i4 : (0 : Int) ≤ k := by omega
      have w1 : IntKind.i64.wrap (2 * (k : Int)) = 2 * k := wrap64 _ (by omega) (by omega)
      have w2 : IntKind.i64.wrap (2 * (k : Int) + 1) = 2 * k + 1 := wrap64 _ (by omega) (by omega)
      have t1 : (2 * (k : Int)).toNat = 2 * k := by omega
      have t2 : (2 * (k : Int) + 1).toNat = 2 * k + 1 := by omega
      clear hd d1 d2
      go_wp2
      go_region_with (first | (go_at_call_of 54 (Value.int .u8 (b1.toNat : Int)); refine (H1.out _).mono ?_; rintro e w3 ⟨rfl, rfl⟩) | (go_at_call_of 54 (Value.int .u8 (b2.toNat : Int)); refine (H2.out _).mono ?_; rintro e w3 ⟨rfl, rfl⟩))
      all_goals go_wp2
      all_goals exact ⟨⟨k + 1, by omega, by go_num, hide (row_step hrow.out (hor.trans hpv.out.symm)), hide ((hbel.out.setCell (Nat.le_refl _) _).drew)⟩, by simp [intOf]; omega⟩
    · have hke : k = s.size / 2 := by omega
      have HR := hide (row_hc s k hke hrow.out)
      go_wp2
      go_ret
      exact ⟨rfl, HR.out, hbel.out⟩
end
theorem good_all (l : List UInt8) (h : good l = l.length) : l.all isD = true := by
  induction l with
  | nil => rfl
  | cons b r ih =>
    unfold good at h ih
    by_cases hb : isD b = true
    · rw [List.takeWhile_cons, if_pos hb, List.length_cons, List.length_cons] at h
      rw [List.all_cons, hb, ih (by omega)]
      rfl
    · rw [List.takeWhile_cons, if_neg hb] at h
      simp at h
theorem good_full (s : ByteArray) (ha : s.data.toList.all isD = true) : good s.data.toList = s.size := by
  have := good_at s.data.toList s.data.toList.length (Nat.le_refl _) (by rw [List.take_length]; exact ha) (fun h => absurd h (Nat.lt_irrefl _))
  rw [this]
  simp
theorem good_ge (l : List UInt8) (k : Nat) (hk : k ≤ l.length) (h1 : (l.take k).all isD = true) : k ≤ good l := by
  induction l generalizing k with
  | nil => simp at hk; omega
  | cons b r ih =>
    cases k with
    | zero => omega
    | succ k =>
      simp only [List.take_succ_cons, List.all_cons, Bool.and_eq_true] at h1
      have := ih k (by simpa using hk) h1.2
      unfold good at this ⊢
      rw [List.takeWhile_cons, if_pos h1.1, List.length_cons]
      omega
end Go.Proofs.YtempdhoccilhdaaDoor
