/- The contracts of num.Hex and of awake. -/
import Derived.Test.YtnmffnefkokkeaaC
import Derived.Deep.RegionLaw
namespace Go.Proofs.Ytnmffnefkokkeaa
open Go.RowKit

theorem step_app {w : World} {ops : Array Oper} {o : Oper} {a : Act} {K : Act → World → Prop} {Q : Exit → Act → World → Prop} {E : Prop} (hgd : o.guard = none) (s x : Operand)
    (ho : o.op = .call { callee := .builtin .append, args := #[s, x], argTypes := #[40, 40] })
    (v : Value) (l : List UInt8) (hs : a.eval s = v) (hown : Own w v l)
    (ad : Addr) (m c : Nat) (news : List UInt8) (hx : a.eval x = .slice (some ad) m c) (hm : m = news.length) (hnews : ∀ j u, (cellsL news)[j]? = some u → w.cell? (ad.add j) = some u) (hsm : l.length + m ≤ 140737488355328)
    (h : ∀ v' w', Own w' v' (l ++ news) → Onto w w' v v' → K (a.put o.dst v') w') :
    if Region.wanted o (yielded ops a.tmps) = true then Oper.wp Try.prog o a w K Q else E := by
  have hw : Region.wanted o (yielded ops a.tmps) = true := by simp [Region.wanted, hgd]
  rw [if_pos hw]
  obtain ⟨v', w', hr, h2, h3⟩ := run_app (ty := o.type) hown ad m c news hm hnews hsm
  unfold Oper.wp execOp
  simp only [ho, resolve, invoke, builtin, Sem.run_bind, Sem.run_pure, Result.andThen_ok, List.map_toArray, List.map_cons, List.map_nil, hs, hx, hr]
  exact h v' w' h2 h3

def hexb (n : Nat) : UInt8 := if n < 10 then UInt8.ofNat (48 + n) else UInt8.ofNat (87 + n)
def hexL : List UInt8 → List UInt8
  | [] => []
  | b :: r => hexb (b.toNat / 16) :: hexb (b.toNat % 16) :: hexL r
theorem hexL_len (l : List UInt8) : (hexL l).length = 2 * l.length := by
  induction l with
  | nil => rfl
  | cons b r ih => simp [hexL, ih]; omega
theorem hexL_app (a b : List UInt8) : hexL (a ++ b) = hexL a ++ hexL b := by
  induction a with
  | nil => rfl
  | cons x r ih => simp [hexL, ih]
theorem take_snoc (s : ByteArray) (k : Nat) (h : k < s.size) : s.data.toList.take (k + 1) = s.data.toList.take k ++ [s[k]] := by
  rw [List.take_succ_eq_append_getElem (by simpa using h)]; rfl
theorem hexL_snoc (s : ByteArray) (k : Nat) (h : k < s.size) : hexL (s.data.toList.take (k + 1)) = hexL (s.data.toList.take k) ++ [hexb (s[k].toNat / 16), hexb (s[k].toNat % 16)] := by
  rw [take_snoc s k h, hexL_app]; rfl
theorem dig_all : ∀ n : Fin 16, (⟨#[48, 49, 50, 51, 52, 53, 54, 55, 56, 57, 97, 98, 99, 100, 101, 102]⟩ : ByteArray)[n.val] = hexb n.val := by decide
theorem dig_at (n : Nat) (h : n < 16) (z : Int) (hz : z = n) (hh : z.toNat < (⟨#[48, 49, 50, 51, 52, 53, 54, 55, 56, 57, 97, 98, 99, 100, 101, 102]⟩ : ByteArray).size) :
    (((⟨#[48, 49, 50, 51, 52, 53, 54, 55, 56, 57, 97, 98, 99, 100, 101, 102]⟩ : ByteArray)[z.toNat].toNat : Nat) : Int) = ((hexb n).toNat : Int) := by
  subst hz
  have := dig_all ⟨n, h⟩
  simp only [Int.toNat_natCast]
  rw [← this]
theorem two_new (w : World) (x y : Int) (b c : UInt8) (hx : x = b.toNat) (hy : y = c.toNat) : ∀ j u, (cellsL [b, c])[j]? = some u → (w.alloc (.cells #[.int .u8 x, .int .u8 y] 5)).cell? ((⟨w.heap.size, 0, none⟩ : Addr).add j) = some u := by
  subst hx hy
  exact cell_two_new _ _ _ _

set_option maxRecDepth 10000 in
set_option maxHeartbeats 400000 in
theorem hex_any (s : ByteArray) (w : World) (hs : s.size ≤ 35184372088832) :
    Calls Try.prog 19 #[.string s] w fun e w' => e = .returned (.string ⟨(hexL s.data.toList).toArray⟩) ∧ Below w.heap.size w w' := by
  obtain ⟨i0, hi, hz0, hz1, hz2⟩ := info_parts info5
  go_enter Try.func19, Try.ntmps19
  go_wp2_with (at_make; refine wpList_make_own _ rfl _ _ 40 rfl 0 5 i0 (.int .u8 0) 1 Try.underlying40 hi hz0 hz1 _ _ _ (2 * s.size) rfl rfl (by omega) (by rw [hz2]; omega) (by unfold maxLen; omega) (Nat.zero_le _) ?_; intro w1 hown1 hgrow1)
  go_loopw [3, 4, 11] (fun v _ i wr => ∃ k : Nat, k ≤ s.size ∧ i = .int .i64 k ∧ Own wr v (hexL (s.data.toList.take k)) ∧ Below w.heap.size w wr ∧ ∀ g, v.ownBlock = some g → w.heap.size ≤ g) (fun _ _ i _ => (s.size - intOf i).toNat)
  case atStart => exact ⟨0, Nat.zero_le _, rfl, hown1, (Below.refl _ _).grown hgrow1 (Nat.le_refl _) (by intro k hk; cases hk), by intro g hg; cases hg; exact Nat.le_refl _⟩
  case round =>
    obtain ⟨k, hk, rfl, ho, hbel, hfar⟩ := hrel
    by_cases hlt : k < s.size
    · have hx := s[k].toNat_lt
      have hlen : (hexL (s.data.toList.take k)).length ≤ 70368744177664 := by rw [hexL_len]; simp; omega
      have hi1 : 0 ≤ (s[k].toNat : Int) / 16 ∧ (s[k].toNat : Int) / 16 < 16 := by omega
      have hi2 : 0 ≤ (s[k].toNat : Int) % 16 ∧ (s[k].toNat : Int) % 16 < 16 := by omega
      have hand : bits BinOp.and IntKind.u8 (s[k].toNat : Int) 15 = (s[k].toNat : Int) % 16 := u8_and15 _ (by omega) (by omega)
      have hk0 : (0 : Int) ≤ k := by omega
      have hk1 : (k : Int) < s.size := by omega
      go_wp2
      go_region_law ((refine step_app (by rfl) _ _ (by rfl) _ _ (by rfl) (ho.alloc _) ⟨_, 0, none⟩ 2 2 [hexb (s[k].toNat / 16), hexb (s[k].toNat % 16)] (by rfl) rfl (two_new _ _ _ _ _ (dig_at _ (by omega) _ (by omega) _) (dig_at _ (by omega) _ (by omega) _)) (by simp; omega) ?_; intro v' w3 hown' hon3))
      all_goals go_wp2
      all_goals
        have hon : Onto wr w3 u3 v' := (((Onto.refl _ _).alloc _).drew).trans hon3
        exact ⟨⟨k + 1, by omega, by go_num, by rw [hexL_snoc s k hlt]; exact hown', hbel.trans (hon.below hbel.size hfar), hon.far hbel.size hfar⟩, by simp [intOf]; omega⟩
    · have hk' : s.data.toList.take k = s.data.toList := List.take_of_length_le (by simp; omega)
      rw [hk'] at ho
      have hcv := conv_own ho
      go_wp2
      go_ret
      exact ⟨rfl, hbel⟩

set_option maxRecDepth 10000 in
set_option maxHeartbeats 400000 in
theorem awake_any (w : World) : Calls Try.prog 11 #[] w fun e w' => e = .returned (.bool true) ∧ Below w.heap.size w w' := by
  have ht : takeC ⟨#[253, 0, 1]⟩ 0 = (256, 3, 0) := by decide
  have hh : hexL (⟨#[171]⟩ : ByteArray).data.toList = [97, 98] := by decide
  go_enter Try.func11, Try.ntmps11
  go_wp2_with (first | (go_at_call 8; refine (takeCount_any ⟨#[253, 0, 1]⟩ 0 _ (by decide)).mono ?_; rintro e w1 ⟨rfl, rfl⟩; rw [ht]; simp only [tc]) | (go_at_call 19; refine (hex_any ⟨#[171]⟩ _ (by decide)).mono ?_; rintro e w1 ⟨rfl, hbel⟩; rw [hh]))
  go_ret
  exact ⟨rfl, hbel⟩
end Go.Proofs.Ytnmffnefkokkeaa
