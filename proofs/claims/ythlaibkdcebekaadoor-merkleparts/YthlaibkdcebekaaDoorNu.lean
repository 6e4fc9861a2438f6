/- The contract of read. -/
import Derived.Test.YthlaibkdcebekaaDoorNv
import Derived.Test.YthlaibkdcebekaaDoorNw
namespace Go.Proofs.YthlaibkdcebekaaDoor
open Go.RowKit
open Go.Deep
section
set_option maxRecDepth 10000
set_option maxHeartbeats 4000000
theorem read_step {B : World} {gt n : Nat} (k p : Nat) (hk : k ≤ 17) (hp : p ≤ 131072) (IH : ∀ k', k = k' + 1 → RP B gt n k' (2 * p)) : RR B gt n k p := by
  intro vb vi vp vm bs is ps ms W J hb1 hb2
  have P1 := hide (Pq.start J)
  have J1 := hide (J.next ((Below.refl _ _).alloc (Nat.le_refl _) (.cells (hc zeros) 39)))
  have HB := hide (And.intro hb1 hb2)
  have J0 := hide J
  have HIH := hide IH
  have HK := hide (And.intro hk hp)
  clear J IH hb1 hb2 hk hp
  cases bs with
  | nil =>
    obtain ⟨ab, cb, rfl, _⟩ := J1.out.bits.form
    have HR : Hid (rd n k p [] is = none) := by
      show _ = _
      cases k <;> rfl
    go_enter Tryd.func24, Tryd.ntmps24
    go_upto_region 1 with (first | refine wpList_allocA A25 rfl rfl ?_)
    generalize W.alloc (.cells (hc zeros) 39) = W1 at *
    generalize W.heap.size = gr at *
    have x1 := World.rowIs.cell J1.out.row (i := 1) (by decide)
    rw [show rc5 n (.slice ab ([] : List Bool).length cb) vi vp vm 1 = .slice ab 0 cb from rfl] at x1
    go_wp2_with (first | refine wpList_buildA A25 rfl rfl ?_ | refine wpList_storeA A25 rfl _ _ rfl gr (hc zeros) (by rw [hc_size, zeros_len]) (hc_one _) rfl rfl (hc zeros) (by rw [hc_size, zeros_len]) 39 P1.out.res ?_)
    refine bodyPost_ret (v := .tuple #[.agg (hc zeros), .bool false]) (resAB A25 Tryd.results24 _ _ gr 39 (hc zeros) (by rw [hc_size, zeros_len]) rfl (setRow_heap _ _ _ _ _ _ P1.out.res) _ (by rfl)) rfl ⟨vp, vm, (P1.out.fin _).1, (P1.out.fin _).2, ?_⟩
    rw [HR.out]
    exact rfl
  | cons b bs =>
    by_cases hlf : ∃ x is', is = x :: is' ∧ (b = false ∨ k = 0)
    · obtain ⟨x, is', rfl, hb⟩ := hlf
      have l1 := Nat.le_of_add_right_le HB.out.1
      have l2 := Nat.le_of_add_right_le HB.out.2
      cases b with
      | false =>
        rw [show rd n k p (false :: bs) (x :: is') = some ⟨x, bs, is', [], []⟩ by cases k <;> rfl]
        exact read_leaf0 k p vb vi vp vm bs x is' ps ms W J0.out
      | true =>
        have hk : k = 0 := by
          rcases hb with h | h
          · cases h
          · exact h
        subst hk
        exact read_leaf1 0 p (by decide) vb vi vp vm bs x is' ps ms W J0.out l1 l2
    generalize hRD : rd n k p (b :: bs) is = RD at *
    have HRD := hide hRD
    clear hRD
    obtain ⟨ab, cb, rfl, hcb⟩ := J1.out.bits.form
    obtain ⟨gb, ob, rfl⟩ := J1.out.bits.base (by simp)
    have c1 := ((J1.out.bits.below J1.out.bel).cell 0 (by simp))
    rw [show (b :: bs).getD 0 false = b from rfl, Nat.add_zero] at c1
    have TL := hide J1.out.bits.tail2
    rw [List.length_cons] at *
    have hl1 : (((bs.length : Int) + 1) == 0) = false := by rw [beq_eq_false_iff_ne]; omega
    have hl2 : (0 : Int) < (bs.length : Int) + 1 := by omega
    have hl3 : (1 : Int) ≤ (bs.length : Int) + 1 := by omega
    have hl4 : (bs.length : Int) + 1 ≤ (cb : Int) := by omega
    go_enter Tryd.func24, Tryd.ntmps24
    go_upto_region 1 with (first | refine wpList_allocA A25 rfl rfl ?_)
    generalize W.alloc (.cells (hc zeros) 39) = W1 at *
    generalize W.heap.size = gr at *
    have x1 := World.rowIs.cell J1.out.row (i := 1) (by decide)
    rw [show rc5 n (.slice (some ⟨gb, ob, none⟩) (bs.length + 1) cb) vi vp vm 1 = .slice (some ⟨gb, ob, none⟩) (bs.length + 1) cb from rfl] at x1
    have f1 := World.rowIs.frozen J1.out.row 1
    go_upto_region 5 with fail
    generalize (if cb = 1 then some ({ block := gb, off := ob } : Addr) else some { block := gb, off := ob + 1 }) = ab2 at *
    have J2 := hide (J1.out.setB TL.out)
    have P2 := hide (P1.out.setT J1.out.tfar 1 (.slice ab2 bs.length (cb - 1)))
    generalize cb - 1 = cb2 at *
    clear x1 f1 c1 hl1 hl2 hl3 hl4 hcb J1 P1 TL J0
    generalize W1.setCell ⟨gt, 1, none⟩ (.slice ab2 bs.length cb2) = W2 at *
    by_cases hin : b = true ∧ k ≠ 0
    · obtain ⟨rfl, hk0⟩ := hin
      obtain ⟨k', hkk⟩ : ∃ k', k = k' + 1 := ⟨k - 1, by omega⟩
      have HI := hide (HIH.out k' hkk _ _ _ _ _ _ _ _ _ J2.out (by rw [← hkk]; exact HB.out.1) (by rw [← hkk]; exact HB.out.2))
      have h5 : (0 : Int) < (k : Int) := by omega
      obtain ⟨hk, hp⟩ := HK.out
      have w1 : IntKind.i64.wrap ((k : Int) - 1) = (k' : Int) := by rw [wrapI _ (by omega) (by omega)]; omega
      have w2 : IntKind.i64.wrap (2 * (p : Int)) = ((2 * p : Nat) : Int) := by rw [wrapI _ (by omega) (by omega)]; omega
      have HR : Hid (RD = rdP n k' (2 * p) bs is) := by
        show _ = _
        rw [← HRD.out, hkk]
        rfl
      clear HIH HB hk0 hkk hk hp HRD hlf
      generalize 2 * p = q at *
      cases hr : rdP n k' q bs is with
      | none =>
        rw [hr] at HI HR
        clear hr
        go_wp2_with (first | (go_at_call 37; refine HI.out.mono ?_; rintro e w3 ⟨vp3, vm3, o3, be3, ra⟩; have ra2 : e = .returned (.tuple #[.agg (hc zeros), .bool false]) := ra; subst ra2; clear ra; have P3 := hide (P2.out.call o3 be3); clear o3 be3) | refine wpList_storeA A25 rfl _ _ rfl gr (hc zeros) (by rw [hc_size, zeros_len]) (hc_one _) rfl rfl (hc zeros) (by rw [hc_size, zeros_len]) 39 P3.out.res ?_)
        exact bodyPost_ret (v := .tuple #[.agg (hc zeros), .bool false]) (resAB A25 Tryd.results24 _ _ gr 39 (hc zeros) (by rw [hc_size, zeros_len]) rfl (setRow_heap _ _ _ _ _ _ P3.out.res) _ (by rfl)) rfl ⟨vp3, vm3, (P3.out.fin _).1, (P3.out.fin _).2, by rw [HR.out]; exact rfl⟩
      | some r =>
        rw [hr] at HI HR
        clear hr
        obtain ⟨X, bs3, is3, ps3, ms3⟩ := r
        go_wp2_with (first | (go_at_call 37; refine HI.out.mono ?_; rintro e w3 ⟨vp3, vm3, o3, be3, ra⟩; obtain ⟨ra2, ra3, vb3, vi3, j3⟩ := ra; simp only at ra2 ra3 j3; subst ra2; have LP := hide ra3; have J3 := hide j3; have P3 := hide (P2.out.call o3 be3); clear o3 be3 ra3 j3) | refine wpList_storeA A25 rfl _ _ rfl gr (hc X) (by rw [hc_size, LP.out]) (hc_one _) rfl rfl (hc zeros) (by rw [hc_size, zeros_len]) 39 P3.out.res ?_)
        exact bodyPost_ret (v := .tuple #[.agg (hc X), .bool true]) (resAB A25 Tryd.results24 _ _ gr 39 (hc X) (by rw [hc_size, LP.out]) rfl (setRow_heap _ _ _ _ _ _ P3.out.res) _ (by rfl)) rfl ⟨vp3, vm3, (P3.out.fin _).1, (P3.out.fin _).2, by rw [HR.out]; exact ⟨rfl, LP.out, vb3, vi3, P3.out.rr _ J3.out⟩⟩
    · have hcs : b = false ∨ (b = true ∧ k = 0) := by
        cases b
        · exact .inl rfl
        · refine .inr ⟨rfl, ?_⟩
          by_cases h : k = 0
          · exact h
          · exact absurd ⟨rfl, h⟩ hin
      have hnil : is = [] := by
        cases is with
        | nil => rfl
        | cons x is' => exact absurd ⟨x, is', rfl, hcs.imp id And.right⟩ hlf
      subst hnil
      clear hin HIH hlf
      obtain ⟨ai, ci, rfl⟩ := J2.out.ids.form
      have x2 := World.rowIs.cell J2.out.row (i := 2) (by decide)
      rw [show rc5 n (.slice ab2 bs.length cb2) (.slice ai ([] : List (List UInt8)).length ci) vp vm 2 = .slice ai 0 ci from rfl] at x2
      have HR : Hid (RD = none) := by
        show _ = _
        rw [← HRD.out]
        rcases hcs with rfl | ⟨rfl, rfl⟩
        · cases k <;> rfl
        · rfl
      have hk0 : b = false ∨ b = true ∧ ¬ (0 : Int) < (k : Int) := by
        rcases hcs with h | ⟨h, rfl⟩
        · exact .inl h
        · exact .inr ⟨h, by decide⟩
      clear hcs HB HRD
      rcases hk0 with rfl | ⟨rfl, hk0⟩
      all_goals
        go_wp2_with (first | refine wpList_buildA A25 rfl rfl ?_ | refine wpList_storeA A25 rfl _ _ rfl gr (hc zeros) (by rw [hc_size, zeros_len]) (hc_one _) rfl rfl (hc zeros) (by rw [hc_size, zeros_len]) 39 P2.out.res ?_)
        exact bodyPost_ret (v := .tuple #[.agg (hc zeros), .bool false]) (resAB A25 Tryd.results24 _ _ gr 39 (hc zeros) (by rw [hc_size, zeros_len]) rfl (setRow_heap _ _ _ _ _ _ P2.out.res) _ (by rfl)) rfl ⟨vp, vm, (P2.out.fin _).1, (P2.out.fin _).2, by rw [HR.out]; exact rfl⟩
end
end Go.Proofs.YthlaibkdcebekaaDoor
