/- Hashes held against each other: the contracts of num's Compare and of the document's. -/
import Derived.Test.YtnmffnefkokkeaaZd
namespace Go.Proofs.Ytnmffnefkokkeaa
open Go.RowKit
open Go.Deep
/-- How two numbers stand to one another, by their k lowest bytes. -/
def cmpK (a b : Nat → Int) : Nat → Int
  | 0 => 0
  | k + 1 => if a k < b k then -1 else if b k < a k then 1 else cmpK a b k
theorem cmpK_lt {a b : Nat → Int} {k n : Nat} (h : cmpK a b (k + 1) = cmpK a b n) (hl : a k < b k) : cmpK a b n = -1 := by
  rw [← h, cmpK, if_pos hl]
theorem cmpK_gt {a b : Nat → Int} {k n : Nat} (h : cmpK a b (k + 1) = cmpK a b n) (hl : ¬ a k < b k) (hg : b k < a k) : cmpK a b n = 1 := by
  rw [← h, cmpK, if_neg hl, if_pos hg]
theorem cmpK_eq {a b : Nat → Int} {k n : Nat} (h : cmpK a b (k + 1) = cmpK a b n) (hl : ¬ a k < b k) (hg : ¬ b k < a k) : cmpK a b k = cmpK a b n := by
  rw [← h, cmpK, if_neg hl, if_neg hg]
theorem hb_lt (h : List UInt8) (k : Nat) : 0 ≤ hb h k ∧ hb h k < 256 := by
  unfold hb
  have := (h.getD k 0).toNat_lt
  omega
theorem hb_at (h : List UInt8) (k : Nat) (hk : k < (⟨h.toArray⟩ : ByteArray).size) : (((⟨h.toArray⟩ : ByteArray)[k].toNat : Nat) : Int) = hb h k := by
  have hk' : k < h.length := by have : (⟨h.toArray⟩ : ByteArray).size = h.length := by show h.toArray.size = _; simp
                                omega
  unfold hb
  rw [List.getD_eq_getElem?_getD, List.getElem?_eq_getElem hk']
  rfl
section
set_option maxRecDepth 10000
set_option maxHeartbeats 400000
theorem compare_any (h g : List UInt8) (hl : h.length = 32) (gl : g.length = 32) (w : World) : Calls Try.prog 22 #[.agg (hc h), .agg (hc g)] w fun e w' => e = .returned (.int .i64 (cmpK (hb h) (hb g) 32)) ∧ Below w.heap.size w w' := by
  go_enter Try.func22, Try.ntmps22
  go_wp2_with (first | refine wpList_box33 rfl _ rfl h rfl ?_ | refine wpList_box33 rfl _ rfl g rfl ?_)
  have R0 := hide (row_of_hc hl (heap_alloc2_old w (.cells (hc h) 33) (.cells (hc g) 33)))
  have R1 := hide (row_of_hc gl (heap_alloc2_new w (.cells (hc h) 33) (.cells (hc g) 33)))
  have BB := hide (two_below w (.cells (hc h) 33) (.cells (hc g) 33))
  go_loopw [5] (fun c wr => ∃ k : Nat, k ≤ 32 ∧ c = .int .i64 ((k : Int) - 1) ∧ Hid (cmpK (hb h) (hb g) k = cmpK (hb h) (hb g) 32) ∧ Hid (wr.rowIs w.heap.size 33 32 (fun j => .int .u8 (hb h j))) ∧ Hid (wr.rowIs (w.heap.size + 1) 33 32 (fun j => .int .u8 (hb g j))) ∧ Hid (Below w.heap.size w wr)) (fun c _ => (1 + intOf c).toNat)
  case atStart => exact ⟨32, by omega, rfl, rfl, R0, R1, BB⟩
  case round =>
    clear R0 R1 BB
    obtain ⟨k, hk, rfl, hcm, r0, r1, bb⟩ := hrel
    cases k with
    | zero =>
      go_wp2
      go_ret
      exact ⟨by rw [← hcm.out]; rfl, bb.out⟩
    | succ k =>
      have hw : ((k + 1 : Nat) : Int) - 1 = k := by omega
      rw [hw]
      have c0 := r0.out.cell (show k < 32 by omega)
      have c1 := r1.out.cell (show k < 32 by omega)
      have k0 : (0 : Int) ≤ k := by omega
      have k1 : (k : Int) < 32 := by omega
      by_cases h1 : hb h k < hb g k
      · have HE := hide (cmpK_lt hcm.out h1)
        generalize hb h k = x at *
        generalize hb g k = y at *
        go_wp2
        go_quiet (fail)
        go_wp2
        go_ret
        exact ⟨by rw [HE.out]; rfl, below_drewN bb.out _⟩
      · by_cases h2 : hb g k < hb h k
        · have HE := hide (cmpK_gt hcm.out h1 h2)
          generalize hb h k = x at *
          generalize hb g k = y at *
          go_wp2
          go_quiet (fail)
          go_wp2
          go_quiet (fail)
          go_wp2
          go_ret
          exact ⟨by rw [HE.out]; rfl, below_drewN (below_drewN bb.out _) _⟩
        · have HE := hide (cmpK_eq hcm.out h1 h2)
          generalize hb h k = x at *
          generalize hb g k = y at *
          go_wp2
          go_quiet (fail)
          go_wp2
          go_quiet (fail)
          go_wp2
          exact ⟨⟨k, by omega, by go_num, HE, r0, r1, hide (below_drewN bb.out _)⟩, by simp [intOf]; omega⟩
theorem rcompare_any (h g : List UInt8) (hl : h.length = 32) (gl : g.length = 32) (w : World) : Calls Try.prog 23 #[.string ⟨h.toArray⟩, .string ⟨g.toArray⟩] w fun e w' => e = .returned (.int .i64 (cmpK (hb h) (hb g) 32)) ∧ ∃ n, w' = w.drewN n := by
  have hz : (⟨h.toArray⟩ : ByteArray).size = 32 := by show h.toArray.size = 32; rw [List.size_toArray, hl]
  have gz : (⟨g.toArray⟩ : ByteArray).size = 32 := by show g.toArray.size = 32; rw [List.size_toArray, gl]
  have ha := hide (fun k hk => hb_at h k hk)
  have hg := hide (fun k hk => hb_at g k hk)
  generalize (⟨h.toArray⟩ : ByteArray) = s at *
  generalize (⟨g.toArray⟩ : ByteArray) = t at *
  go_enter Try.func23, Try.ntmps23
  go_wp2
  go_loopw [5] (fun c wr => ∃ k n : Nat, k ≤ 32 ∧ c = .int .i64 ((k : Int) - 1) ∧ Hid (cmpK (hb h) (hb g) k = cmpK (hb h) (hb g) 32) ∧ Hid (wr = w.drewN n)) (fun c _ => (1 + intOf c).toNat)
  case atStart => exact ⟨32, 0, by omega, rfl, rfl, rfl⟩
  case round =>
    obtain ⟨k, n, hk, rfl, hcm, HW⟩ := hrel
    cases k with
    | zero =>
      go_wp2
      go_ret
      exact ⟨by rw [← hcm.out]; rfl, n, HW.out⟩
    | succ k =>
      have hw : ((k + 1 : Nat) : Int) - 1 = k := by omega
      rw [hw]
      have k0 : (0 : Int) ≤ k := by omega
      have k1 : (k : Int) < s.size := by omega
      have k2 : (k : Int) < t.size := by omega
      have k3 : k < s.size := by omega
      have k4 : k < t.size := by omega
      have e1 := ha.out k k3
      have e2 := hg.out k k4
      by_cases h1 : hb h k < hb g k
      · have HE := hide (cmpK_lt hcm.out h1)
        rw [← e1, ← e2] at h1
        go_wp2
        go_quiet (fail)
        go_wp2
        go_ret
        exact ⟨by rw [HE.out]; rfl, n + nq, by rw [HW.out, World.drewN_drewN]⟩
      · by_cases h2 : hb g k < hb h k
        · have HE := hide (cmpK_gt hcm.out h1 h2)
          rw [← e1, ← e2] at h1 h2
          go_wp2
          go_quiet (fail)
          go_wp2
          go_quiet (fail)
          go_wp2
          go_ret
          exact ⟨by rw [HE.out]; rfl, _, by rw [HW.out]; simp only [World.drewN_drewN]; rfl⟩
        · have HE := hide (cmpK_eq hcm.out h1 h2)
          rw [← e1, ← e2] at h1 h2
          go_wp2
          go_quiet (fail)
          go_wp2
          go_quiet (fail)
          go_wp2
          exact ⟨⟨k, _, by omega, by go_num, HE, hide (by rw [HW.out]; simp only [World.drewN_drewN]; rfl)⟩, by simp [intOf]; omega⟩
end
end Go.Proofs.Ytnmffnefkokkeaa
