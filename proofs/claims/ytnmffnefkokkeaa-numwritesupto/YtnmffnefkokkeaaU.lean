/- The walk of the law NumReads. -/
import Derived.Test.YtnmffnefkokkeaaT
namespace Go.Proofs.Ytnmffnefkokkeaa
open Go.RowKit
/-- The acts that came in. -/
def IsActs (w : World) (ao : Option Addr) (len : Nat) : Prop := ∀ i, i < len → ∃ (g off : Nat) (kind n : Int) (x : Nat) (t : ByteArray), ao = some ⟨g, off, none⟩ ∧ g < w.heap.size ∧ n ≤ 9223372036854775807 ∧ U64 x ∧ t.size ≤ maxLen ∧
  w.cell? ⟨g, off + i * 4, none⟩ = some (.int .i64 kind) ∧ w.cell? ⟨g, off + i * 4 + 1, none⟩ = some (.int .i64 n) ∧ w.cell? ⟨g, off + i * 4 + 2, none⟩ = some (.int .u64 x) ∧ w.cell? ⟨g, off + i * 4 + 3, none⟩ = some (.string t)
theorem Rfr.toBelow {b B : Nat} {w wr w3 : World} (h : Below B w wr) (hB : B ≤ wr.heap.size) (f : Rfr b wr.drew w3) (hb : B ≤ b) : Below B w w3 :=
  h.trans ⟨f.os, f.tape, f.output, f.size, fun k hk => f.block k (Nat.lt_of_lt_of_le hk hB) (by omega)⟩
section
set_option maxRecDepth 10000
set_option maxHeartbeats 1000000
theorem newReader_any (s : ByteArray) (w : World) : Calls Try.prog 24 #[.string s] w fun e w' => e = .returned (.pointer (some ⟨w.heap.size, 0, none⟩)) ∧ w' = w.alloc (.cells #[.string s, .int .i64 0, .int .i64 0] 85) := by
  go_enter Try.func24, Try.ntmps24
  go_wp2
  go_ret
  exact ⟨rfl, rfl⟩
theorem numReads_walk (s : ByteArray) (hs : s.size ≤ maxLen) (ao : Option Addr) (len cap : Nat) (w : World) (hl : len ≤ maxLen) (hacts : IsActs w ao len) :
    Calls Try.prog 5 #[.string s, .slice ao len cap] w fun e w' => e = .returned (.bool true) ∧ Below w.heap.size w w' := by
  unfold maxLen at hl
  have HA := hide hacts
  clear hacts
  go_enter Try.func5, Try.ntmps5
  go_wp2_with fail
  refine (newReader_any s _).mono ?_
  rintro e w1 ⟨rfl, hw1⟩
  have R1 : Hid (Rst w1 w.heap.size s 0 0) := by subst hw1; exact heap_alloc_new w _
  have B1 : Hid (Below w.heap.size w w1) := by subst hw1; exact (Below.refl _ _).alloc (Nat.le_refl _) _
  clear hw1
  go_wp2_with fail
  refine (awake_any _).mono ?_
  rintro e w2 ⟨rfl, hb2⟩
  have R2 : Hid (Rst w2 w.heap.size s 0 0) := R1.out.below hb2
  have B2 : Hid (Below w.heap.size w w2) := B1.out.trans (hb2.mono B1.out.size)
  clear hb2 R1 B1
  go_wp2
  go_loopw [7, 8] (fun i _ wr => ∃ (k : Nat) (p err : Int), k ≤ len ∧ i = .int .i64 k ∧ 0 ≤ p ∧ p ≤ s.size ∧ Hid (Rst wr w.heap.size s p err) ∧ Hid (wr.heap[w2.heap.size]? = some (.cells #[.string s, .int .i64 p, .int .i64 err] 50 (0, 0))) ∧ Hid (Below w.heap.size w wr)) (fun i _ _ => (len - intOf i).toNat)
  case atStart => exact ⟨0, 0, 0, Nat.zero_le _, rfl, by omega, by omega, R2.out.alloc _, heap_alloc_new w2 _, B2.out.alloc B2.out.size _⟩
  case round =>
    obtain ⟨k, p, err, hk, rfl, hp0, hp1, R3, M3, B3⟩ := hrel
    by_cases hlt : k < len
    · obtain ⟨g, off, kind, n, x, t, rfl, hg, hn, hx, ht, d0, d1, d2, d3⟩ := HA.out k hlt
      have e0 := (B3.out.cell (p := ⟨g, off + k * 4, none⟩) hg).trans d0
      have e1 := (B3.out.cell (p := ⟨g, off + k * 4 + 1, none⟩) hg).trans d1
      have e2 := (B3.out.cell (p := ⟨g, off + k * 4 + 2, none⟩) hg).trans d2
      have e3 := (B3.out.cell (p := ⟨g, off + k * 4 + 3, none⟩) hg).trans d3
      obtain ⟨m0, m1, m2, fm0, fm1, fm2⟩ := cells3 M3.out
      have hbc := R2.out.lt
      have HO := hide fun W h => one_any w.heap.size s W p err kind n x t hn h hs hp0 hp1
      clear d0 d1 d2 d3
      have hk0 : (0 : Int) ≤ k := by omega
      have hk1 : (k : Int) < len := by omega
      have hinv := oneS_inv s p err kind n x hp0 hp1
      generalize oneS s p err kind n x = Q at *
      obtain ⟨q1, q2⟩ := Q
      dsimp only at *
      have hcl := lt_of_heap M3.out
      go_wp2
      go_region_with (go_at_call 25; go_must (refine (HO.out wr.drew R3.out).mono ?_; rintro e w3 ⟨rfl, g3, f3⟩; have hM3 := (f3.block w2.heap.size hcl (by omega)).trans M3.out; obtain ⟨v0, v1, v2, fv0, fv1, fv2⟩ := cells3 hM3))
      all_goals
        have V3 : Hid ((((w3.setCell ⟨w2.heap.size, 0, none⟩ (.string s)).setCell ⟨w2.heap.size, 1, none⟩ (.int .i64 q1)).setCell ⟨w2.heap.size, 2, none⟩ (.int .i64 q2)).heap[w2.heap.size]? = some (.cells #[.string s, .int .i64 q1, .int .i64 q2] 50 (0, 0))) :=
          heap_setCell_same _ w2.heap.size 2 _ _ _ (heap_setCell_same _ w2.heap.size 1 _ _ _ (heap_setCell_same _ w2.heap.size 0 _ _ _ hM3))
        have G3 : Hid (Rst (((w3.setCell ⟨w2.heap.size, 0, none⟩ (.string s)).setCell ⟨w2.heap.size, 1, none⟩ (.int .i64 q1)).setCell ⟨w2.heap.size, 2, none⟩ (.int .i64 q2)) w.heap.size s q1 q2) := g3.set3 (by omega) _ _ _
        have F3 : Hid (Below w.heap.size w (((w3.setCell ⟨w2.heap.size, 0, none⟩ (.string s)).setCell ⟨w2.heap.size, 1, none⟩ (.int .i64 q1)).setCell ⟨w2.heap.size, 2, none⟩ (.int .i64 q2))) := below3 (Rfr.toBelow B3.out B3.out.size f3 (Nat.le_refl _)) (by omega) _ _ _
        clear hM3 g3 f3 v0 v1 v2 fv0 fv1 fv2
        generalize (((w3.setCell ⟨w2.heap.size, 0, none⟩ (.string s)).setCell ⟨w2.heap.size, 1, none⟩ (.int .i64 q1)).setCell ⟨w2.heap.size, 2, none⟩ (.int .i64 q2)) = W3 at *
        obtain ⟨v0, v1, v2, fv0, fv1, fv2⟩ := cells3 V3.out
        have HE := hide fun n => rErr w.heap.size s (W3.drewN n) q1 q2 (G3.out.drewN n)
        have HP := hide fun n => rAt w.heap.size s (W3.drewN n) q1 q2 (G3.out.drewN n)
        have HL := hide fun n => rLeft w.heap.size s (W3.drewN n) q1 q2 (G3.out.drewN n) hs hinv.1 hinv.2
        unfold maxLen at hs
        have hsub : IntKind.i64.wrap ((s.size : Int) - q1) = (s.size : Int) - q1 := wrap_small _ (by omega) (by omega)
        go_wp2
        go_frame
        go_quiet ((first | (go_at_call 26; exact Calls.quiet_of_same (HE.out _)) | (go_at_call 27; exact Calls.quiet_of_same (HP.out _)) | (go_at_call 28; exact Calls.quiet_of (HL.out _))))
        go_wp2
        exact ⟨⟨k + 1, q1, q2, by omega, by go_num, hinv.1, hinv.2, G3.out.drewN _, V3.out, ⟨F3.out.os, F3.out.tape, F3.out.output, F3.out.size, F3.out.block⟩⟩, by simp [intOf]; omega⟩
    · go_wp2
      go_ret
      exact ⟨rfl, B3.out⟩
end
end Go.Proofs.Ytnmffnefkokkeaa
