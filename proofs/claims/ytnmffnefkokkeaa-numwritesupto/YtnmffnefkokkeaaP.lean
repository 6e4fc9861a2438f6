/- The contracts of the document's reader: String, Bool, End. -/
import Derived.Test.YtnmffnefkokkeaaO
namespace Go.Proofs.Ytnmffnefkokkeaa
open Go.RowKit
theorem lt_of_heap {w : World} {g : Nat} {A : Obj} (h : w.heap[g]? = some A) : g < w.heap.size := by
  rcases Nat.lt_or_ge g w.heap.size with hlt | hge
  · exact hlt
  · rw [Array.getElem?_eq_none hge] at h; cases h
theorem kept_alloc {w1 w2 : World} {g : Nat} {A C : Obj} (hA : w1.heap[g]? = some A) (hb : Below (w1.alloc C).heap.size (w1.alloc C) w2) : w2.heap[g]? = some A := by
  have hlt := lt_of_heap hA
  exact ((hb.block g (by simp; omega)).trans (Below.heap_alloc w1 C g hlt)).trans hA
theorem new_alloc {w1 w2 : World} {C : Obj} (hb : Below (w1.alloc C).heap.size (w1.alloc C) w2) : w2.heap[w1.heap.size]? = some C :=
  (hb.block w1.heap.size (by simp)).trans (heap_alloc_new w1 C)
/-- An old block behind a new one. -/
theorem old_cell (w1 : World) (g : Nat) (hg : g < w1.heap.size) : (∀ (o : Obj) (i : Nat), (w1.alloc o).cell? ⟨g, i, none⟩ = w1.cell? ⟨g, i, none⟩) ∧ (∀ (o : Obj) (i : Nat), (w1.alloc o).frozen? ⟨g, i, none⟩ = w1.frozen? ⟨g, i, none⟩) :=
  ⟨fun o i => World.cell?_of_block (a := ⟨g, i, none⟩) (Below.heap_alloc w1 o g hg), fun o i => World.frozen?_of_block (a := ⟨g, i, none⟩) (Below.heap_alloc w1 o g hg)⟩
theorem Below.alloc' {a w : World} (h : Below a.heap.size a w) (o : Obj) : Below a.heap.size a (w.alloc o) := Go.RowKit.Below.alloc h h.size o
theorem below3 {B : Nat} {w w2 : World} (h : Below B w w2) {g : Nat} (hg : B ≤ g) (a b c : Value) : Below B w (((w2.setCell ⟨g, 0, none⟩ a).setCell ⟨g, 1, none⟩ b).setCell ⟨g, 2, none⟩ c) :=
  ((h.setCell (p := ⟨g, 0, none⟩) hg a).setCell (p := ⟨g, 1, none⟩) hg b).setCell (p := ⟨g, 2, none⟩) hg c
section
variable (s : ByteArray) (w : World)
set_option maxRecDepth 10000
set_option maxHeartbeats 400000
theorem mString (p err most : Int) (hs : s.size ≤ maxLen) (h0 : 0 ≤ p) (h1 : p ≤ s.size) (hn2 : most ≤ 9223372036854775807) : Calls Try.prog 57 #[.agg #[.string s, .int .i64 p, .int .i64 err], .int .i64 most] w fun e w' => e = .returned (.tuple #[.agg #[.string s, .int .i64 (rstr s p err most).1, .int .i64 (rstr s p err most).2.1], .string (rstr s p err most).2.2]) ∧ Below w.heap.size w w' := by
  by_cases he : err = 0
  · subst he
    by_cases hn : most < 0
    · have hr : rstr s p 0 most = (p, 1, ⟨#[]⟩) := by unfold rstr; rw [if_neg (by simp), if_pos hn]
      rw [hr]
      clear hr
      go_enter Try.func57, Try.ntmps57
      go_wp2
      exact bodyPost_ret (v := .tuple #[.agg #[.string s, .int .i64 p, .int .i64 1], .string ⟨#[]⟩]) (by simp [results, Try.results57, go_sem]) rfl ⟨rfl, two_below _ _ _⟩
    have hm0 : 0 ≤ most := by omega
    obtain ⟨i1, i2, i3, i4, i5, i6⟩ := rcnt_inv s p 0 most h0 h1
    have HC := hide fun w => mCount s w p 0 most hs h0 h1
    have HT := hide fun w => mTake s w (rcnt s p 0 most).1 0 (rcnt s p 0 most).2.2 hs i1 i2
    unfold rstr
    rw [if_neg (by simp), if_neg hn]
    generalize rcnt s p 0 most = R at *
    obtain ⟨r1, r2, r3⟩ := R
    dsimp only at *
    have hu : IntKind.u64.wrap most = most := wrapu _ hm0 (by omega)
    by_cases hr2 : r2 = 0
    · subst hr2
      have i7 : r3 ≤ most := i5 rfl
      have hu3 : IntKind.i64.wrap r3 = r3 := wrap_small _ i3 (by omega)
      rw [if_neg (by simp)]
      have hem := rtake_err s r1 0 r3
      clear i5 i6
      generalize rtake s r1 0 r3 = T at *
      obtain ⟨t1, t2, tb⟩ := T
      dsimp only at *
      by_cases ht2 : t2 = 0
      · subst ht2
        rw [if_neg (by simp)]
        clear hem
        go_enter Try.func57, Try.ntmps57
        go_wp2_with fail
        refine (HC.out _).mono ?_
        rintro e w1 ⟨rfl, hb⟩
        obtain ⟨hA, hB, hBel⟩ := two_kept hb
        obtain ⟨a0, a1, a2, fa0, fa1, fa2⟩ := cells3 hA
        obtain ⟨b0, b1, b2, fb0, fb1, fb2⟩ := cells3 hB
        have hl1 := lt_of_heap hB
        have HA := hide hA
        have HBB := hide hB
        have HB := hide hBel
        clear hb hA hB hBel
        go_wp2_with fail
        clear a0 a1 a2 fa0 fa1 fa2 b0 b1 b2 fb0 fb1 fb2
        refine (HT.out _ (by omega)).mono ?_
        rintro e w2 ⟨rfl, hb⟩
        have hA2 := kept_alloc HA.out hb
        have hB2 := kept_alloc HBB.out hb
        have hC2 := new_alloc hb
        obtain ⟨a0, a1, a2, fa0, fa1, fa2⟩ := cells3 hA2
        obtain ⟨b0, b1, b2, fb0, fb1, fb2⟩ := cells3 hB2
        obtain ⟨c0, c1, c2, fc0, fc1, fc2⟩ := cells3 hC2
        have HB2 : Hid (Below w.heap.size w w2) := (HB.out.alloc HB.out.size _).trans (hb.mono (by have := HB.out.size; simp; omega))
        have hl2 := lt_of_heap hC2
        clear hb hA2 hB2 hC2 HA HBB
        go_wp2
        refine bodyPost_ret (v := .tuple #[.agg #[.string s, .int .i64 t1, .int .i64 0], .string tb]) ?_ rfl ⟨rfl, ?_⟩
        · simp [results, Try.results57, go_sem, *]
        · exact below3 (below3 HB2.out (by omega) _ _ _) (by omega) _ _ _
      · rw [if_pos ht2]
        have htb := (hem ht2).2
        subst htb
        have ht2' : (t2 != 0) = true := by simp [ht2]
        clear hem ht2
        go_enter Try.func57, Try.ntmps57
        go_wp2_with fail
        refine (HC.out _).mono ?_
        rintro e w1 ⟨rfl, hb⟩
        obtain ⟨hA, hB, hBel⟩ := two_kept hb
        obtain ⟨a0, a1, a2, fa0, fa1, fa2⟩ := cells3 hA
        obtain ⟨b0, b1, b2, fb0, fb1, fb2⟩ := cells3 hB
        have hl1 := lt_of_heap hB
        have HA := hide hA
        have HBB := hide hB
        have HB := hide hBel
        clear hb hA hB hBel
        go_wp2_with fail
        clear a0 a1 a2 fa0 fa1 fa2 b0 b1 b2 fb0 fb1 fb2
        refine (HT.out _ (by omega)).mono ?_
        rintro e w2 ⟨rfl, hb⟩
        have hA2 := kept_alloc HA.out hb
        have hB2 := kept_alloc HBB.out hb
        have hC2 := new_alloc hb
        obtain ⟨a0, a1, a2, fa0, fa1, fa2⟩ := cells3 hA2
        obtain ⟨b0, b1, b2, fb0, fb1, fb2⟩ := cells3 hB2
        obtain ⟨c0, c1, c2, fc0, fc1, fc2⟩ := cells3 hC2
        have HB2 : Hid (Below w.heap.size w w2) := (HB.out.alloc HB.out.size _).trans (hb.mono (by have := HB.out.size; simp; omega))
        have hl2 := lt_of_heap hC2
        clear hb hA2 hB2 hC2 HA HBB
        go_wp2
        refine bodyPost_ret (v := .tuple #[.agg #[.string s, .int .i64 p, .int .i64 t2], .string ⟨#[]⟩]) ?_ rfl ⟨rfl, ?_⟩
        · simp [results, Try.results57, go_sem, *]
        · exact below3 ((below3 HB2.out (by omega) _ _ _).setCell (p := ⟨w.heap.size, 2, none⟩) (Nat.le_refl _) _) (by omega) _ _ _
    · obtain ⟨rfl, rfl⟩ := i6 hr2
      rw [if_pos hr2]
      have hr2' : (r2 != 0) = true := by simp [hr2]
      clear i5 i6 hr2 HT
      go_enter Try.func57, Try.ntmps57
      go_wp2_with fail
      refine (HC.out _).mono ?_
      rintro e w1 ⟨rfl, hb⟩
      obtain ⟨hA, hB, hBel⟩ := two_kept hb
      obtain ⟨a0, a1, a2, fa0, fa1, fa2⟩ := cells3 hA
      obtain ⟨b0, b1, b2, fb0, fb1, fb2⟩ := cells3 hB
      have hl1 := lt_of_heap hB
      have HB := hide hBel
      obtain ⟨oa, of⟩ := old_cell w1 w.heap.size (by omega)
      obtain ⟨ob, og⟩ := old_cell w1 (w.heap.size + 1) (by omega)
      clear hb hA hB hBel
      go_wp2
      refine bodyPost_ret (v := .tuple #[.agg #[.string s, .int .i64 r1, .int .i64 r2], .string ⟨#[]⟩]) ?_ rfl ⟨rfl, ?_⟩
      · simp [results, Try.results57, go_sem, *]
      · exact below3 ((HB.out.alloc HB.out.size _).setCell (p := ⟨w.heap.size, 2, none⟩) (Nat.le_refl _) _) (by omega) _ _ _
  · have hr : rstr s p err most = (p, err, ⟨#[]⟩) := by unfold rstr; rw [if_pos he]
    rw [hr]
    have he' : (err != 0) = true := by simp [he]
    clear he hr
    go_enter Try.func57, Try.ntmps57
    go_wp2
    exact bodyPost_ret (v := .tuple #[.agg #[.string s, .int .i64 p, .int .i64 err], .string ⟨#[]⟩]) (by simp [results, Try.results57, go_sem]) rfl ⟨rfl, two_below _ _ _⟩
theorem getL_one (x : ByteArray) (h : x.size = 1) : getL x.data.toList = (x[0]'(by omega)).toNat := by
  have hl : x.data.toList.length = 1 := by simpa using h
  have e := getL_drop x.data.toList 0 (by omega)
  rw [List.drop_zero, List.drop_of_length_le (by omega)] at e
  rw [e]; simp [getL]; rfl
theorem mEnd (p err : Int) : Calls Try.prog 59 #[.agg #[.string s, .int .i64 p, .int .i64 err]] w fun e w' => e = .returned (.agg #[.string s, .int .i64 p, .int .i64 (rend s p err)]) ∧ Below w.heap.size w w' := by
  by_cases he : err = 0
  · subst he
    by_cases hp : p < s.size
    · have hr : rend s p 0 = 5 := by unfold rend; rw [if_pos rfl, if_pos hp]
      rw [hr]
      clear hr
      go_enter Try.func59, Try.ntmps59
      go_wp2
      exact bodyPost_ret (v := .agg #[.string s, .int .i64 p, .int .i64 5]) (by simp [results, Try.results59, go_sem]) rfl ⟨rfl, two_below _ _ _⟩
    · have hr : rend s p 0 = 0 := by unfold rend; rw [if_pos rfl, if_neg hp]
      rw [hr]
      clear hr
      go_enter Try.func59, Try.ntmps59
      go_wp2
      exact bodyPost_ret (v := .agg #[.string s, .int .i64 p, .int .i64 0]) (by simp [results, Try.results59, go_sem]) rfl ⟨rfl, two_below _ _ _⟩
  · have hr : rend s p err = err := by unfold rend; rw [if_neg he]
    rw [hr]
    have he' : (err == 0) = false := by simp [he]
    clear he hr
    go_enter Try.func59, Try.ntmps59
    go_wp2
    exact bodyPost_ret (v := .agg #[.string s, .int .i64 p, .int .i64 err]) (by simp [results, Try.results59, go_sem]) rfl ⟨rfl, two_below _ _ _⟩
theorem mBool (p err : Int) (hs : s.size ≤ maxLen) (h0 : 0 ≤ p) (h1 : p ≤ s.size) : Calls Try.prog 58 #[.agg #[.string s, .int .i64 p, .int .i64 err]] w fun e w' => e = .returned (.tuple #[.agg #[.string s, .int .i64 (rbool s p err).1, .int .i64 (rbool s p err).2.1], .bool (rbool s p err).2.2]) ∧ Below w.heap.size w w' := by
  have HT := hide fun w => mTake s w p err 1 hs h0 h1 (by decide)
  have he := rtake_err s p err 1
  have ho := rtake_ok s p err 1
  unfold rbool
  generalize rtake s p err 1 = R at *
  obtain ⟨r1, r2, rb⟩ := R
  dsimp only at *
  by_cases h2 : r2 = 0
  · subst h2
    rw [if_neg (by simp)]
    obtain ⟨rfl, -, -, h5, h6⟩ := ho rfl
    have hz : rb.size = 1 := by rw [h6]; simp; omega
    have hz0 : 0 < rb.size := by omega
    have hg : getL rb.data.toList = (rb[0]'hz0).toNat := getL_one rb hz
    rw [hg]
    clear he ho h5 h6 hz hg
    generalize hm0 : (rb[0]'hz0).toNat = m
    have hm1 : ((rb[0]'hz0).toNat : Int) = (m : Int) := by rw [hm0]
    clear hm0
    by_cases hm : 1 < m
    · rw [if_pos hm]
      have hm2 : (1 : Int) < m := by omega
      clear hm
      go_enter Try.func58, Try.ntmps58
      go_wp2_with fail
      refine (HT.out _).mono ?_
      rintro e w1 ⟨rfl, hb⟩
      obtain ⟨hA, hB, hBel⟩ := two_kept hb
      obtain ⟨a0, a1, a2, fa0, fa1, fa2⟩ := cells3 hA
      obtain ⟨b0, b1, b2, fb0, fb1, fb2⟩ := cells3 hB
      have hl1 := lt_of_heap hB
      have hl0 := lt_of_heap hA
      have HB := hide hBel
      clear hb hA hB hBel
      go_wp2
      refine bodyPost_ret (v := .tuple #[.agg #[.string s, .int .i64 p, .int .i64 6], .bool false]) ?_ rfl ⟨rfl, ?_⟩
      · simp [results, Try.results58, go_sem, *]
      · exact Below.alloc' (below3 (HB.out.setCell (p := ⟨w.heap.size, 2, none⟩) (Nat.le_refl _) _) (Nat.le_succ _) _ _ _) _
    · rw [if_neg hm]
      have hm2 : ¬ (1 : Int) < m := by omega
      have hm3 : ((m : Int) == 1) = (m == 1) := by
        by_cases e : m = 1
        · subst e; rfl
        · rw [beq_eq_false_iff_ne.2 (by omega), beq_eq_false_iff_ne.2 e]
      clear hm
      go_enter Try.func58, Try.ntmps58
      go_wp2_with fail
      refine (HT.out _).mono ?_
      rintro e w1 ⟨rfl, hb⟩
      obtain ⟨hA, hB, hBel⟩ := two_kept hb
      obtain ⟨a0, a1, a2, fa0, fa1, fa2⟩ := cells3 hA
      obtain ⟨b0, b1, b2, fb0, fb1, fb2⟩ := cells3 hB
      have hl1 := lt_of_heap hB
      have hl0 := lt_of_heap hA
      have HB := hide hBel
      clear hb hA hB hBel
      go_wp2
      go_region
      all_goals go_wp2
      all_goals
        refine bodyPost_ret (v := .tuple #[.agg #[.string s, .int .i64 r1, .int .i64 0], .bool (m == 1)]) ?_ rfl ⟨rfl, ?_⟩
        · simp [results, Try.results58, go_sem, *]
        · exact (Below.alloc' (below3 HB.out (Nat.le_succ _) _ _ _) _).drew
  · rw [if_pos h2]
    obtain ⟨rfl, rfl⟩ := he h2
    have h2' : (r2 == 0) = false := by simp [h2]
    clear he ho h2
    go_enter Try.func58, Try.ntmps58
    go_wp2_with fail
    refine (HT.out _).mono ?_
    rintro e w1 ⟨rfl, hb⟩
    obtain ⟨hA, hB, hBel⟩ := two_kept hb
    obtain ⟨a0, a1, a2, fa0, fa1, fa2⟩ := cells3 hA
    obtain ⟨b0, b1, b2, fb0, fb1, fb2⟩ := cells3 hB
    have hl1 := lt_of_heap hB
    have hl0 := lt_of_heap hA
    have HB := hide hBel
    clear hb hA hB hBel
    go_wp2
    go_region
    all_goals go_wp2
    all_goals
      refine bodyPost_ret (v := .tuple #[.agg #[.string s, .int .i64 r1, .int .i64 r2], .bool false]) ?_ rfl ⟨rfl, ?_⟩
      · simp [results, Try.results58, go_sem, *]
      · exact (Below.alloc' (below3 HB.out (Nat.le_succ _) _ _ _) _).drew
end
end Go.Proofs.Ytnmffnefkokkeaa
