/- Hex of texts as long as any that comes in: the contracts of num.Hex and of the document's Hex up to 2^47 - 4096 bytes. -/
import Derived.Test.YtnmffnefkokkeaaZh
import Derived.Deep.DeepAppendRoom
namespace Go.Proofs.Ytnmffnefkokkeaa
open Go.RowKit
open Go.Deep
theorem step_spare {w : World} {ops : Array Oper} {o : Oper} {a : Act} {K : Act → World → Prop} {Q : Exit → Act → World → Prop} {E : Prop} (hgd : o.guard = none) (s x : Operand)
    (ho : o.op = .call { callee := .builtin .append, args := #[s, x], argTypes := #[40, 40] })
    (g n cap : Nat) (l : List UInt8) (hs : a.eval s = .slice (some ⟨g, 0, none⟩) n cap) (hn : n = l.length) (hown : Own w (.slice (some ⟨g, 0, none⟩) n cap) l)
    (ad : Addr) (m c : Nat) (news : List UInt8) (hx : a.eval x = .slice (some ad) m c) (hm : m = news.length) (hnews : ∀ j u, (cellsL news)[j]? = some u → w.cell? (ad.add j) = some u) (hroom : n + m ≤ cap)
    (h : ∀ w', Own w' (.slice (some ⟨g, 0, none⟩) (n + m) cap) (l ++ news) → w.grownBy w' (some g) → K (a.put o.dst (.slice (some ⟨g, 0, none⟩) (n + m) cap)) w') :
    if Region.wanted o (yielded ops a.tmps) = true then Oper.wp Try.prog o a w K Q else E := by
  have hw : Region.wanted o (yielded ops a.tmps) = true := by simp [Region.wanted, hgd]
  rw [if_pos hw]
  obtain ⟨i0, hi, hz0, hz1, hz2⟩ := info_parts info5
  subst hn
  obtain ⟨w', hr, h2, h3⟩ := run_append_own_spare (P := Try.prog) w 0 40 o.type 5 i0 1 Try.underlying40 hi hz1 g l.length cap (cellsL l) hown ad m c (cellsL news) (by simp [cellsL_len, hm]) hnews
    (fun u hu => by simp only [cellsL, List.mem_map] at hu; obtain ⟨b, _, rfl⟩ := hu; rfl) hroom
  unfold Oper.wp execOp
  simp only [ho, resolve, invoke, builtin, Sem.run_bind, Sem.run_pure, Result.andThen_ok, List.map_toArray, List.map_cons, List.map_nil, hs, hx, hr]
  refine h w' ?_ h3
  unfold Own
  rw [List.length_append, cellsL_app, ← hm]
  exact h2
set_option maxRecDepth 10000 in
set_option maxHeartbeats 400000 in
theorem hex_big (s : ByteArray) (w : World) (hs : s.size ≤ 140737488351232) :
    Calls Try.prog 19 #[.string s] w fun e w' => e = .returned (.string ⟨(hexL s.data.toList).toArray⟩) ∧ Below w.heap.size w w' := by
  obtain ⟨i0, hi, hz0, hz1, hz2⟩ := info_parts info5
  go_enter Try.func19, Try.ntmps19
  go_wp2_with (at_make; refine wpList_make_own _ rfl _ _ 40 rfl 0 5 i0 (.int .u8 0) 1 Try.underlying40 hi hz0 hz1 _ _ _ (2 * s.size) rfl rfl (by omega) (by rw [hz2]; omega) (by unfold maxLen; omega) (Nat.zero_le _) ?_; intro w1 hown1 hgrow1)
  go_loopw [3, 4, 11] (fun v _ i wr => ∃ k : Nat, k ≤ s.size ∧ i = .int .i64 k ∧ v = .slice (some ⟨w.heap.size, 0, none⟩) (2 * k) (2 * s.size) ∧ Own wr (.slice (some ⟨w.heap.size, 0, none⟩) (2 * k) (2 * s.size)) (hexL (s.data.toList.take k)) ∧ Below w.heap.size w wr) (fun _ _ i _ => (s.size - intOf i).toNat)
  case atStart => exact ⟨0, Nat.zero_le _, rfl, rfl, hown1, (Below.refl _ _).grown hgrow1 (Nat.le_refl _) (by intro k hk; cases hk)⟩
  case round =>
    obtain ⟨k, hk, rfl, rfl, ho, hbel⟩ := hrel
    by_cases hlt : k < s.size
    · have hx := s[k].toNat_lt
      have hlen : 2 * k = (hexL (s.data.toList.take k)).length := by rw [hexL_len]; simp; omega
      have hi1 : 0 ≤ (s[k].toNat : Int) / 16 ∧ (s[k].toNat : Int) / 16 < 16 := by omega
      have hi2 : 0 ≤ (s[k].toNat : Int) % 16 ∧ (s[k].toNat : Int) % 16 < 16 := by omega
      have hand : bits BinOp.and IntKind.u8 (s[k].toNat : Int) 15 = (s[k].toNat : Int) % 16 := u8_and15 _ (by omega) (by omega)
      have hk0 : (0 : Int) ≤ k := by omega
      have hk1 : (k : Int) < s.size := by omega
      have HL := hide hlen
      clear hlen
      go_wp2
      go_region_law ((refine step_spare (by rfl) _ _ (by rfl) w.heap.size (2 * k) (2 * s.size) _ (by rfl) HL.out (ho.alloc _) ⟨_, 0, none⟩ 2 2 [hexb (s[k].toNat / 16), hexb (s[k].toNat % 16)] (by rfl) rfl (two_new _ _ _ _ _ (dig_at _ (by omega) _ (by omega) _) (dig_at _ (by omega) _ (by omega) _)) (by omega) ?_; intro w3 hown' hon3))
      all_goals go_wp2
      all_goals
        exact ⟨⟨k + 1, by omega, by go_num, by rw [show 2 * (k + 1) = 2 * k + 2 by omega], by rw [hexL_snoc s k hlt, show 2 * (k + 1) = 2 * k + 2 by omega]; exact hown', ((hbel.alloc hbel.size _).drew).grown hon3 (by have := hbel.size; simp; omega) (by intro j hj; cases hj; exact Nat.le_refl _)⟩, by simp [intOf]; omega⟩
    · have hk' : s.data.toList.take k = s.data.toList := List.take_of_length_le (by simp; omega)
      rw [hk'] at ho
      have hcv := conv_own ho
      go_wp2
      go_ret
      exact ⟨rfl, hbel⟩
section
set_option maxRecDepth 10000
set_option maxHeartbeats 400000
theorem rHex_big (s : ByteArray) (hs : s.size ≤ 140737488351232) (w : World) : Calls Try.prog 20 #[.string s] w fun e w' => e = .returned (.string ⟨(hexL s.data.toList).toArray⟩) ∧ ∃ n, w' = w.drewN n := by
  go_enter Try.func20, Try.ntmps20
  go_wp2
  go_loopw [3, 4] (fun o i wr => ∃ k n : Nat, k ≤ s.size ∧ i = .int .i64 k ∧ o = .string ⟨(hexL (s.data.toList.take k)).toArray⟩ ∧ wr = w.drewN n) (fun _ i _ => (s.size - intOf i).toNat)
  case atStart => exact ⟨0, 0, Nat.zero_le _, rfl, rfl, rfl⟩
  case round =>
    obtain ⟨k, n, hk, rfl, rfl, hw0⟩ := hrel
    have HW := hide hw0
    clear hw0
    by_cases hlt : k < s.size
    · have hx := s[k].toNat_lt
      have hz : (⟨(hexL (s.data.toList.take k)).toArray⟩ : ByteArray).size ≤ 281474976710656 := by
        show (hexL (s.data.toList.take k)).toArray.size ≤ _
        rw [List.size_toArray, hexL_len]
        simp
        omega
      have hcat := hide (cat2 s k hlt)
      generalize (⟨(hexL (s.data.toList.take k)).toArray⟩ : ByteArray) = T at hz hcat ⊢
      have hk0 : (0 : Int) ≤ k := by omega
      have hk1 : (k : Int) < s.size := by omega
      have o1 : ∀ b : UInt8, (⟨#[b]⟩ : ByteArray).size = 1 := fun b => rfl
      have H1 := hide fun W => rdigit_any ((s[k].toNat : Int) / 16) (by omega) (by omega) W
      have H2 := hide fun W => rdigit_any ((s[k].toNat : Int) % 16) (by omega) (by omega) W
      have hq : IntKind.u8.wrap ((s[k].toNat : Int) / 16) = (s[k].toNat : Int) / 16 := by show ((s[k].toNat : Int) / 16) % 256 = _; omega
      have hr : IntKind.u8.wrap ((s[k].toNat : Int) % 16) = (s[k].toNat : Int) % 16 := by show ((s[k].toNat : Int) % 16) % 256 = _; omega
      go_wp2
      go_quiet ((first | (go_at_call 54; exact Calls.quiet_of_same (H1.out _)) | (go_at_call 54; exact Calls.quiet_of_same (H2.out _))))
      go_wp2
      refine ⟨⟨k + 1, n + nq, by omega, by go_num, by rw [← hcat.out]; rfl, by rw [HW.out, World.drewN_drewN]⟩, by simp [intOf]; omega⟩
    · have hk' : s.data.toList.take k = s.data.toList := List.take_of_length_le (by simp; omega)
      go_wp2
      go_ret
      exact ⟨by rw [hk']; rfl, n, HW.out⟩
end
end Go.Proofs.Ytnmffnefkokkeaa
