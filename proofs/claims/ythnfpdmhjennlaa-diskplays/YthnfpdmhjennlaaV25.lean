/- The document's disk: what is wrong with a change. -/
import Derived.Test.YthnfpdmhjennlaaV24
namespace Go.Proofs.Ythnfpdmhjennlaa
open Go.RowKit
open Go.Deep
open Go.Lib
set_option linter.unusedVariables false
/-- The error of a cut. -/
def ctE (x : St) (nm : ByteArray) (k : Int) : Int := if fnd x nm = 0 then (if k < 0 ∨ ((x.now.at (ls nm)).length : Int) < k then 1 else 0) else fnd x nm
/-- The error of a change. -/
def rwE (x : St) (kd : Nat) (nm tn : ByteArray) (k : Int) (s : ByteArray) : Int := if kd = 0 then wrE x nm k s else if kd = 1 then ctE x nm k else if kd = 2 then mvE x nm tn else fnd x nm
theorem wpList_loadAG {t : TypeId} {n : Nat} {z : Array Value} {w : World} {ops : Array Oper} {rest : List Oper} {o : Oper} {a : Act} {Q : Exit → Act → World → Prop} (A : Arr t n z) (x : Operand) (ho : o.op = .load t x) (g : Nat) (hx : a.eval x = .pointer (some ⟨g, 0, none⟩)) (c : Array Value) (hn : c.size = n) (t' : TypeId) (hg : w.heap[g]? = some (.cells c t' (0, 0))) (hw : Region.wanted o (yielded ops a.tmps) = true)
    (h : wpList Try.prog ops Q rest (a.put o.dst (.agg c)) w) : wpList Try.prog ops Q (o :: rest) a w := by
  refine wpList_step fun K hK => ?_
  rw [if_pos hw]
  unfold Oper.wp execOp
  simp only [ho, hx, ld_row A hn hg, Sem.run_bind, Result.andThen_ok, Sem.run_pure]
  exact hK _ _ h
section
set_option maxRecDepth 10000
set_option maxHeartbeats 4000000
variable {K : Nat → Prop} {x : St} {v : Value} {w : World}
theorem rw_dead (kd : Nat) (nm tn : ByteArray) (k : Int) (s : ByteArray) (hv : isD K w v x) (hV : Vd x) (hK : ∀ g, K g → g < w.heap.size) (hm : nm.size ≤ maxLen) (htn : tn.size ≤ maxLen) (hs : s.size ≤ maxLen) (hk1 : -9223372036854775808 ≤ k) (hk2 : k < 9223372036854775808) (hd : x.dead = true) : Calls Try.prog 41 #[v, .agg #[.int .i64 (kd : Int), .string nm, .string tn, .int .i64 k, .string s]] w fun e w' => e = .returned (.int .i64 7) ∧ Below w.heap.size w w' := by
  obtain ⟨ao, n, cs, al, cl, ap, cp, rfl⟩ := hv.form
  have s1 : (w.alloc (.cells #[.slice ao n cs, .slice al x.loose.length cl, .int .i64 (x.made : Int), .slice ap x.plan.length cp, .bool x.dead] 30)).heap.size = w.heap.size + 1 := by simp
  have hB : Below w.heap.size w ((w.alloc (.cells #[.slice ao n cs, .slice al x.loose.length cl, .int .i64 (x.made : Int), .slice ap x.plan.length cp, .bool x.dead] 30)).alloc (.cells #[.int .i64 (kd : Int), .string nm, .string tn, .int .i64 k, .string s] 53)) := ((Below.refl w.heap.size w).alloc (Nat.le_refl _) _).alloc (by rw [s1]; omega) _
  have r1 : ((w.alloc (.cells #[.slice ao n cs, .slice al x.loose.length cl, .int .i64 (x.made : Int), .slice ap x.plan.length cp, .bool x.dead] 30)).alloc (.cells #[.int .i64 (kd : Int), .string nm, .string tn, .int .i64 k, .string s] 53)).heap[w.heap.size]? = some (.cells #[.slice ao n cs, .slice al x.loose.length cl, .int .i64 (x.made : Int), .slice ap x.plan.length cp, .bool x.dead] 30 (0, 0)) := (Below.heap_alloc _ _ _ (by rw [s1]; omega)).trans (heap_alloc_last w _)
  have r2 : ((w.alloc (.cells #[.slice ao n cs, .slice al x.loose.length cl, .int .i64 (x.made : Int), .slice ap x.plan.length cp, .bool x.dead] 30)).alloc (.cells #[.int .i64 (kd : Int), .string nm, .string tn, .int .i64 k, .string s] 53)).heap[w.heap.size + 1]? = some (.cells #[.int .i64 (kd : Int), .string nm, .string tn, .int .i64 k, .string s] 53 (0, 0)) := by
    have := heap_alloc_last (w.alloc (.cells #[.slice ao n cs, .slice al x.loose.length cl, .int .i64 (x.made : Int), .slice ap x.plan.length cp, .bool x.dead] 30)) (.cells #[.int .i64 (kd : Int), .string nm, .string tn, .int .i64 k, .string s] 53)
    rw [s1] at this
    exact this
  have HB := hide hB
  have H1 := hide (hv.next hB)
  have HK : Hid (∀ g, K g → g < ((w.alloc (.cells #[.slice ao n cs, .slice al x.loose.length cl, .int .i64 (x.made : Int), .slice ap x.plan.length cp, .bool x.dead] 30)).alloc (.cells #[.int .i64 (kd : Int), .string nm, .string tn, .int .i64 k, .string s] 53)).heap.size) := fun g hg => Nat.lt_of_lt_of_le (hK g hg) hB.size
  have HVd := hide hV
  have CC : Hid (∀ W, Below ((w.alloc (.cells #[.slice ao n cs, .slice al x.loose.length cl, .int .i64 (x.made : Int), .slice ap x.plan.length cp, .bool x.dead] 30)).alloc (.cells #[.int .i64 (kd : Int), .string nm, .string tn, .int .i64 k, .string s] 53)).heap.size ((w.alloc (.cells #[.slice ao n cs, .slice al x.loose.length cl, .int .i64 (x.made : Int), .slice ap x.plan.length cp, .bool x.dead] 30)).alloc (.cells #[.int .i64 (kd : Int), .string nm, .string tn, .int .i64 k, .string s] 53)) W → W.heap[w.heap.size]? = some (.cells #[.slice ao n cs, .slice al x.loose.length cl, .int .i64 (x.made : Int), .slice ap x.plan.length cp, .bool x.dead] 30 (0, 0)) ∧ W.cell? ⟨w.heap.size, 4, none⟩ = some (.bool x.dead) ∧ W.cell? ⟨w.heap.size + 1, 0, none⟩ = some (.int .i64 (kd : Int)) ∧ W.cell? ⟨w.heap.size + 1, 1, none⟩ = some (.string nm) ∧ W.cell? ⟨w.heap.size + 1, 2, none⟩ = some (.string tn) ∧ W.cell? ⟨w.heap.size + 1, 3, none⟩ = some (.int .i64 k) ∧ W.cell? ⟨w.heap.size + 1, 4, none⟩ = some (.string s)) := fun W b => by
    have e1 := (b.block _ (lt_heap r1)).trans r1
    have e2 := (b.block _ (lt_heap r2)).trans r2
    refine ⟨e1, ?_, ?_, ?_, ?_, ?_, ?_⟩
    · rw [cell_of_row _ _ _ _ _ _ e1]; rfl
    · rw [cell_of_row _ _ _ _ _ _ e2]; rfl
    · rw [cell_of_row _ _ _ _ _ _ e2]; rfl
    · rw [cell_of_row _ _ _ _ _ _ e2]; rfl
    · rw [cell_of_row _ _ _ _ _ _ e2]; rfl
    · rw [cell_of_row _ _ _ _ _ _ e2]; rfl
  have HDD := hide hd
  have HX := hide (And.intro hk1 (And.intro hk2 (And.intro hm (And.intro htn hs))))
  clear hB r1 r2 hv hV hK hm htn hs hk1 hk2 hd 
  go_enter Try.func41, Try.ntmps41
  go_upto_region 1 with fail
  try rw [s1]
  clear s1
  generalize ((w.alloc (.cells #[.slice ao n cs, .slice al x.loose.length cl, .int .i64 (x.made : Int), .slice ap x.plan.length cp, .bool x.dead] 30)).alloc (.cells #[.int .i64 (kd : Int), .string nm, .string tn, .int .i64 k, .string s] 53)) = W0 at *
  obtain ⟨c, d4, c0, c1, c2, c3, c4⟩ := CC.out _ (Below.refl _ _)
  rw [HDD.out] at d4
  clear c
  go_wp2
  go_ret
  exact ⟨rfl, HB.out⟩
theorem rw_name (kd : Nat) (nm tn : ByteArray) (k : Int) (s : ByteArray) (hv : isD K w v x) (hV : Vd x) (hK : ∀ g, K g → g < w.heap.size) (hm : nm.size ≤ maxLen) (htn : tn.size ≤ maxLen) (hs : s.size ≤ maxLen) (hk1 : -9223372036854775808 ≤ k) (hk2 : k < 9223372036854775808) (hd : x.dead = false) (hN : isName nm.data.toList = false) : Calls Try.prog 41 #[v, .agg #[.int .i64 (kd : Int), .string nm, .string tn, .int .i64 k, .string s]] w fun e w' => e = .returned (.int .i64 70) ∧ Below w.heap.size w w' := by
  obtain ⟨ao, n, cs, al, cl, ap, cp, rfl⟩ := hv.form
  have s1 : (w.alloc (.cells #[.slice ao n cs, .slice al x.loose.length cl, .int .i64 (x.made : Int), .slice ap x.plan.length cp, .bool x.dead] 30)).heap.size = w.heap.size + 1 := by simp
  have hB : Below w.heap.size w ((w.alloc (.cells #[.slice ao n cs, .slice al x.loose.length cl, .int .i64 (x.made : Int), .slice ap x.plan.length cp, .bool x.dead] 30)).alloc (.cells #[.int .i64 (kd : Int), .string nm, .string tn, .int .i64 k, .string s] 53)) := ((Below.refl w.heap.size w).alloc (Nat.le_refl _) _).alloc (by rw [s1]; omega) _
  have r1 : ((w.alloc (.cells #[.slice ao n cs, .slice al x.loose.length cl, .int .i64 (x.made : Int), .slice ap x.plan.length cp, .bool x.dead] 30)).alloc (.cells #[.int .i64 (kd : Int), .string nm, .string tn, .int .i64 k, .string s] 53)).heap[w.heap.size]? = some (.cells #[.slice ao n cs, .slice al x.loose.length cl, .int .i64 (x.made : Int), .slice ap x.plan.length cp, .bool x.dead] 30 (0, 0)) := (Below.heap_alloc _ _ _ (by rw [s1]; omega)).trans (heap_alloc_last w _)
  have r2 : ((w.alloc (.cells #[.slice ao n cs, .slice al x.loose.length cl, .int .i64 (x.made : Int), .slice ap x.plan.length cp, .bool x.dead] 30)).alloc (.cells #[.int .i64 (kd : Int), .string nm, .string tn, .int .i64 k, .string s] 53)).heap[w.heap.size + 1]? = some (.cells #[.int .i64 (kd : Int), .string nm, .string tn, .int .i64 k, .string s] 53 (0, 0)) := by
    have := heap_alloc_last (w.alloc (.cells #[.slice ao n cs, .slice al x.loose.length cl, .int .i64 (x.made : Int), .slice ap x.plan.length cp, .bool x.dead] 30)) (.cells #[.int .i64 (kd : Int), .string nm, .string tn, .int .i64 k, .string s] 53)
    rw [s1] at this
    exact this
  have HB := hide hB
  have H1 := hide (hv.next hB)
  have HK : Hid (∀ g, K g → g < ((w.alloc (.cells #[.slice ao n cs, .slice al x.loose.length cl, .int .i64 (x.made : Int), .slice ap x.plan.length cp, .bool x.dead] 30)).alloc (.cells #[.int .i64 (kd : Int), .string nm, .string tn, .int .i64 k, .string s] 53)).heap.size) := fun g hg => Nat.lt_of_lt_of_le (hK g hg) hB.size
  have HVd := hide hV
  have CC : Hid (∀ W, Below ((w.alloc (.cells #[.slice ao n cs, .slice al x.loose.length cl, .int .i64 (x.made : Int), .slice ap x.plan.length cp, .bool x.dead] 30)).alloc (.cells #[.int .i64 (kd : Int), .string nm, .string tn, .int .i64 k, .string s] 53)).heap.size ((w.alloc (.cells #[.slice ao n cs, .slice al x.loose.length cl, .int .i64 (x.made : Int), .slice ap x.plan.length cp, .bool x.dead] 30)).alloc (.cells #[.int .i64 (kd : Int), .string nm, .string tn, .int .i64 k, .string s] 53)) W → W.heap[w.heap.size]? = some (.cells #[.slice ao n cs, .slice al x.loose.length cl, .int .i64 (x.made : Int), .slice ap x.plan.length cp, .bool x.dead] 30 (0, 0)) ∧ W.cell? ⟨w.heap.size, 4, none⟩ = some (.bool x.dead) ∧ W.cell? ⟨w.heap.size + 1, 0, none⟩ = some (.int .i64 (kd : Int)) ∧ W.cell? ⟨w.heap.size + 1, 1, none⟩ = some (.string nm) ∧ W.cell? ⟨w.heap.size + 1, 2, none⟩ = some (.string tn) ∧ W.cell? ⟨w.heap.size + 1, 3, none⟩ = some (.int .i64 k) ∧ W.cell? ⟨w.heap.size + 1, 4, none⟩ = some (.string s)) := fun W b => by
    have e1 := (b.block _ (lt_heap r1)).trans r1
    have e2 := (b.block _ (lt_heap r2)).trans r2
    refine ⟨e1, ?_, ?_, ?_, ?_, ?_, ?_⟩
    · rw [cell_of_row _ _ _ _ _ _ e1]; rfl
    · rw [cell_of_row _ _ _ _ _ _ e2]; rfl
    · rw [cell_of_row _ _ _ _ _ _ e2]; rfl
    · rw [cell_of_row _ _ _ _ _ _ e2]; rfl
    · rw [cell_of_row _ _ _ _ _ _ e2]; rfl
    · rw [cell_of_row _ _ _ _ _ _ e2]; rfl
  have HDD := hide hd
  have HInm : Hid (∀ W, Calls Try.prog 34 #[.string nm] W fun e w' => e = .returned (.bool false) ∧ w' = W) := fun W => by
    have := risName_any nm W hm
    rw [hN] at this
    exact this
  have HX := hide (And.intro hk1 (And.intro hk2 (And.intro hm (And.intro htn hs))))
  have HhN := hide hN
  clear hB r1 r2 hv hV hK hm htn hs hk1 hk2 hd hN
  go_enter Try.func41, Try.ntmps41
  go_upto_region 1 with fail
  try rw [s1]
  clear s1
  generalize ((w.alloc (.cells #[.slice ao n cs, .slice al x.loose.length cl, .int .i64 (x.made : Int), .slice ap x.plan.length cp, .bool x.dead] 30)).alloc (.cells #[.int .i64 (kd : Int), .string nm, .string tn, .int .i64 k, .string s] 53)) = W0 at *
  obtain ⟨c, d4, c0, c1, c2, c3, c4⟩ := CC.out _ (Below.refl _ _)
  rw [HDD.out] at d4
  clear c
  go_wp2_with (first | (go_at_call 34; with_reducible (refine (HInm.out _).mono ?_); rintro e W2 ⟨rfl, hw2⟩; subst W2))
  go_ret
  exact ⟨rfl, HB.out⟩
theorem rw_to (nm tn : ByteArray) (k : Int) (s : ByteArray) (hv : isD K w v x) (hV : Vd x) (hK : ∀ g, K g → g < w.heap.size) (hm : nm.size ≤ maxLen) (htn : tn.size ≤ maxLen) (hs : s.size ≤ maxLen) (hk1 : -9223372036854775808 ≤ k) (hk2 : k < 9223372036854775808) (hd : x.dead = false) (hN : isName nm.data.toList = true) (hT : isName tn.data.toList = false) : Calls Try.prog 41 #[v, .agg #[.int .i64 (2 : Int), .string nm, .string tn, .int .i64 k, .string s]] w fun e w' => e = .returned (.int .i64 70) ∧ Below w.heap.size w w' := by
  obtain ⟨ao, n, cs, al, cl, ap, cp, rfl⟩ := hv.form
  have s1 : (w.alloc (.cells #[.slice ao n cs, .slice al x.loose.length cl, .int .i64 (x.made : Int), .slice ap x.plan.length cp, .bool x.dead] 30)).heap.size = w.heap.size + 1 := by simp
  have hB : Below w.heap.size w ((w.alloc (.cells #[.slice ao n cs, .slice al x.loose.length cl, .int .i64 (x.made : Int), .slice ap x.plan.length cp, .bool x.dead] 30)).alloc (.cells #[.int .i64 (2 : Int), .string nm, .string tn, .int .i64 k, .string s] 53)) := ((Below.refl w.heap.size w).alloc (Nat.le_refl _) _).alloc (by rw [s1]; omega) _
  have r1 : ((w.alloc (.cells #[.slice ao n cs, .slice al x.loose.length cl, .int .i64 (x.made : Int), .slice ap x.plan.length cp, .bool x.dead] 30)).alloc (.cells #[.int .i64 (2 : Int), .string nm, .string tn, .int .i64 k, .string s] 53)).heap[w.heap.size]? = some (.cells #[.slice ao n cs, .slice al x.loose.length cl, .int .i64 (x.made : Int), .slice ap x.plan.length cp, .bool x.dead] 30 (0, 0)) := (Below.heap_alloc _ _ _ (by rw [s1]; omega)).trans (heap_alloc_last w _)
  have r2 : ((w.alloc (.cells #[.slice ao n cs, .slice al x.loose.length cl, .int .i64 (x.made : Int), .slice ap x.plan.length cp, .bool x.dead] 30)).alloc (.cells #[.int .i64 (2 : Int), .string nm, .string tn, .int .i64 k, .string s] 53)).heap[w.heap.size + 1]? = some (.cells #[.int .i64 (2 : Int), .string nm, .string tn, .int .i64 k, .string s] 53 (0, 0)) := by
    have := heap_alloc_last (w.alloc (.cells #[.slice ao n cs, .slice al x.loose.length cl, .int .i64 (x.made : Int), .slice ap x.plan.length cp, .bool x.dead] 30)) (.cells #[.int .i64 (2 : Int), .string nm, .string tn, .int .i64 k, .string s] 53)
    rw [s1] at this
    exact this
  have HB := hide hB
  have H1 := hide (hv.next hB)
  have HK : Hid (∀ g, K g → g < ((w.alloc (.cells #[.slice ao n cs, .slice al x.loose.length cl, .int .i64 (x.made : Int), .slice ap x.plan.length cp, .bool x.dead] 30)).alloc (.cells #[.int .i64 (2 : Int), .string nm, .string tn, .int .i64 k, .string s] 53)).heap.size) := fun g hg => Nat.lt_of_lt_of_le (hK g hg) hB.size
  have HVd := hide hV
  have CC : Hid (∀ W, Below ((w.alloc (.cells #[.slice ao n cs, .slice al x.loose.length cl, .int .i64 (x.made : Int), .slice ap x.plan.length cp, .bool x.dead] 30)).alloc (.cells #[.int .i64 (2 : Int), .string nm, .string tn, .int .i64 k, .string s] 53)).heap.size ((w.alloc (.cells #[.slice ao n cs, .slice al x.loose.length cl, .int .i64 (x.made : Int), .slice ap x.plan.length cp, .bool x.dead] 30)).alloc (.cells #[.int .i64 (2 : Int), .string nm, .string tn, .int .i64 k, .string s] 53)) W → W.heap[w.heap.size]? = some (.cells #[.slice ao n cs, .slice al x.loose.length cl, .int .i64 (x.made : Int), .slice ap x.plan.length cp, .bool x.dead] 30 (0, 0)) ∧ W.cell? ⟨w.heap.size, 4, none⟩ = some (.bool x.dead) ∧ W.cell? ⟨w.heap.size + 1, 0, none⟩ = some (.int .i64 (2 : Int)) ∧ W.cell? ⟨w.heap.size + 1, 1, none⟩ = some (.string nm) ∧ W.cell? ⟨w.heap.size + 1, 2, none⟩ = some (.string tn) ∧ W.cell? ⟨w.heap.size + 1, 3, none⟩ = some (.int .i64 k) ∧ W.cell? ⟨w.heap.size + 1, 4, none⟩ = some (.string s)) := fun W b => by
    have e1 := (b.block _ (lt_heap r1)).trans r1
    have e2 := (b.block _ (lt_heap r2)).trans r2
    refine ⟨e1, ?_, ?_, ?_, ?_, ?_, ?_⟩
    · rw [cell_of_row _ _ _ _ _ _ e1]; rfl
    · rw [cell_of_row _ _ _ _ _ _ e2]; rfl
    · rw [cell_of_row _ _ _ _ _ _ e2]; rfl
    · rw [cell_of_row _ _ _ _ _ _ e2]; rfl
    · rw [cell_of_row _ _ _ _ _ _ e2]; rfl
    · rw [cell_of_row _ _ _ _ _ _ e2]; rfl
  have HDD := hide hd
  have HInm : Hid (∀ W, Calls Try.prog 34 #[.string nm] W fun e w' => e = .returned (.bool true) ∧ w' = W) := fun W => by
    have := risName_any nm W hm
    rw [hN] at this
    exact this
  have HItn : Hid (∀ W, Calls Try.prog 34 #[.string tn] W fun e w' => e = .returned (.bool false) ∧ w' = W) := fun W => by
    have := risName_any tn W htn
    rw [hT] at this
    exact this
  have HX := hide (And.intro hk1 (And.intro hk2 (And.intro hm (And.intro htn hs))))
  have HhN := hide hN
  have HhT := hide hT
  clear hB r1 r2 hv hV hK hm htn hs hk1 hk2 hd hN hT
  go_enter Try.func41, Try.ntmps41
  go_upto_region 1 with fail
  try rw [s1]
  clear s1
  generalize ((w.alloc (.cells #[.slice ao n cs, .slice al x.loose.length cl, .int .i64 (x.made : Int), .slice ap x.plan.length cp, .bool x.dead] 30)).alloc (.cells #[.int .i64 (2 : Int), .string nm, .string tn, .int .i64 k, .string s] 53)) = W0 at *
  obtain ⟨c, d4, c0, c1, c2, c3, c4⟩ := CC.out _ (Below.refl _ _)
  rw [HDD.out] at d4
  clear c
  go_wp2_with (first | (go_at_call 34; with_reducible (refine (HInm.out _).mono ?_); rintro e W2 ⟨rfl, hw2⟩; subst W2) | (go_at_call 34; with_reducible (refine (HItn.out _).mono ?_); rintro e W2 ⟨rfl, hw2⟩; subst W2))
  go_ret
  exact ⟨rfl, HB.out⟩
theorem rw_0neg (nm tn : ByteArray) (k : Int) (s : ByteArray) (hv : isD K w v x) (hV : Vd x) (hK : ∀ g, K g → g < w.heap.size) (hm : nm.size ≤ maxLen) (htn : tn.size ≤ maxLen) (hs : s.size ≤ maxLen) (hk1 : -9223372036854775808 ≤ k) (hk2 : k < 9223372036854775808) (hd : x.dead = false) (hN : isName nm.data.toList = true) (hr : k < 0) : Calls Try.prog 41 #[v, .agg #[.int .i64 (0 : Int), .string nm, .string tn, .int .i64 k, .string s]] w fun e w' => e = .returned (.int .i64 1) ∧ Below w.heap.size w w' := by
  obtain ⟨ao, n, cs, al, cl, ap, cp, rfl⟩ := hv.form
  have s1 : (w.alloc (.cells #[.slice ao n cs, .slice al x.loose.length cl, .int .i64 (x.made : Int), .slice ap x.plan.length cp, .bool x.dead] 30)).heap.size = w.heap.size + 1 := by simp
  have hB : Below w.heap.size w ((w.alloc (.cells #[.slice ao n cs, .slice al x.loose.length cl, .int .i64 (x.made : Int), .slice ap x.plan.length cp, .bool x.dead] 30)).alloc (.cells #[.int .i64 (0 : Int), .string nm, .string tn, .int .i64 k, .string s] 53)) := ((Below.refl w.heap.size w).alloc (Nat.le_refl _) _).alloc (by rw [s1]; omega) _
  have r1 : ((w.alloc (.cells #[.slice ao n cs, .slice al x.loose.length cl, .int .i64 (x.made : Int), .slice ap x.plan.length cp, .bool x.dead] 30)).alloc (.cells #[.int .i64 (0 : Int), .string nm, .string tn, .int .i64 k, .string s] 53)).heap[w.heap.size]? = some (.cells #[.slice ao n cs, .slice al x.loose.length cl, .int .i64 (x.made : Int), .slice ap x.plan.length cp, .bool x.dead] 30 (0, 0)) := (Below.heap_alloc _ _ _ (by rw [s1]; omega)).trans (heap_alloc_last w _)
  have r2 : ((w.alloc (.cells #[.slice ao n cs, .slice al x.loose.length cl, .int .i64 (x.made : Int), .slice ap x.plan.length cp, .bool x.dead] 30)).alloc (.cells #[.int .i64 (0 : Int), .string nm, .string tn, .int .i64 k, .string s] 53)).heap[w.heap.size + 1]? = some (.cells #[.int .i64 (0 : Int), .string nm, .string tn, .int .i64 k, .string s] 53 (0, 0)) := by
    have := heap_alloc_last (w.alloc (.cells #[.slice ao n cs, .slice al x.loose.length cl, .int .i64 (x.made : Int), .slice ap x.plan.length cp, .bool x.dead] 30)) (.cells #[.int .i64 (0 : Int), .string nm, .string tn, .int .i64 k, .string s] 53)
    rw [s1] at this
    exact this
  have HB := hide hB
  have H1 := hide (hv.next hB)
  have HK : Hid (∀ g, K g → g < ((w.alloc (.cells #[.slice ao n cs, .slice al x.loose.length cl, .int .i64 (x.made : Int), .slice ap x.plan.length cp, .bool x.dead] 30)).alloc (.cells #[.int .i64 (0 : Int), .string nm, .string tn, .int .i64 k, .string s] 53)).heap.size) := fun g hg => Nat.lt_of_lt_of_le (hK g hg) hB.size
  have HVd := hide hV
  have CC : Hid (∀ W, Below ((w.alloc (.cells #[.slice ao n cs, .slice al x.loose.length cl, .int .i64 (x.made : Int), .slice ap x.plan.length cp, .bool x.dead] 30)).alloc (.cells #[.int .i64 (0 : Int), .string nm, .string tn, .int .i64 k, .string s] 53)).heap.size ((w.alloc (.cells #[.slice ao n cs, .slice al x.loose.length cl, .int .i64 (x.made : Int), .slice ap x.plan.length cp, .bool x.dead] 30)).alloc (.cells #[.int .i64 (0 : Int), .string nm, .string tn, .int .i64 k, .string s] 53)) W → W.heap[w.heap.size]? = some (.cells #[.slice ao n cs, .slice al x.loose.length cl, .int .i64 (x.made : Int), .slice ap x.plan.length cp, .bool x.dead] 30 (0, 0)) ∧ W.cell? ⟨w.heap.size, 4, none⟩ = some (.bool x.dead) ∧ W.cell? ⟨w.heap.size + 1, 0, none⟩ = some (.int .i64 (0 : Int)) ∧ W.cell? ⟨w.heap.size + 1, 1, none⟩ = some (.string nm) ∧ W.cell? ⟨w.heap.size + 1, 2, none⟩ = some (.string tn) ∧ W.cell? ⟨w.heap.size + 1, 3, none⟩ = some (.int .i64 k) ∧ W.cell? ⟨w.heap.size + 1, 4, none⟩ = some (.string s)) := fun W b => by
    have e1 := (b.block _ (lt_heap r1)).trans r1
    have e2 := (b.block _ (lt_heap r2)).trans r2
    refine ⟨e1, ?_, ?_, ?_, ?_, ?_, ?_⟩
    · rw [cell_of_row _ _ _ _ _ _ e1]; rfl
    · rw [cell_of_row _ _ _ _ _ _ e2]; rfl
    · rw [cell_of_row _ _ _ _ _ _ e2]; rfl
    · rw [cell_of_row _ _ _ _ _ _ e2]; rfl
    · rw [cell_of_row _ _ _ _ _ _ e2]; rfl
    · rw [cell_of_row _ _ _ _ _ _ e2]; rfl
  have HDD := hide hd
  have HInm : Hid (∀ W, Calls Try.prog 34 #[.string nm] W fun e w' => e = .returned (.bool true) ∧ w' = W) := fun W => by
    have := risName_any nm W hm
    rw [hN] at this
    exact this
  have HX := hide (And.intro hk1 (And.intro hk2 (And.intro hm (And.intro htn hs))))
  have HhN := hide hN
  have Hhr := hide hr
  clear hB r1 r2 hv hV hK hm htn hs hk1 hk2 hd hN hr
  go_enter Try.func41, Try.ntmps41
  go_upto_region 1 with fail
  try rw [s1]
  clear s1
  generalize ((w.alloc (.cells #[.slice ao n cs, .slice al x.loose.length cl, .int .i64 (x.made : Int), .slice ap x.plan.length cp, .bool x.dead] 30)).alloc (.cells #[.int .i64 (0 : Int), .string nm, .string tn, .int .i64 k, .string s] 53)) = W0 at *
  obtain ⟨c, d4, c0, c1, c2, c3, c4⟩ := CC.out _ (Below.refl _ _)
  rw [HDD.out] at d4
  clear c
  go_upto_region 5 with (first | (go_at_call 34; with_reducible (refine (HInm.out _).mono ?_); rintro e W2 ⟨rfl, hw2⟩; subst W2))
  have R0 := hide (CC.out _ (Below.refl _ _)).1
  go_upto_region 6 with (first | ((with_reducible refine at_list ?_); refine wpList_loadA ADd rfl _ rfl w.heap.size rfl _ rfl _ R0.out ?_) | (go_at_call 33; refine (rget_any K x _ nm _ H1.out HVd.out HK.out).mono ?_; rintro e W2 ⟨t, ht, rfl, b2⟩; have TS : Hid (t.size = (x.now.at (ls nm)).length) := (by show _ = _; rw [← ht, ls_len]); have B2 := hide b2; clear ht b2))
  clear d4 c0 c1 c2 c3 c4 R0
  obtain ⟨c, d4, c0, c1, c2, c3, c4⟩ := CC.out _ B2.out
  have R2 := hide c
  rw [HDD.out] at d4
  clear c
  have q1 : k < 0 := Hhr.out
  go_wp2
  go_ret
  exact ⟨rfl, below_next HB.out B2.out⟩
theorem rw_0far (nm tn : ByteArray) (k : Int) (s : ByteArray) (hv : isD K w v x) (hV : Vd x) (hK : ∀ g, K g → g < w.heap.size) (hm : nm.size ≤ maxLen) (htn : tn.size ≤ maxLen) (hs : s.size ≤ maxLen) (hk1 : -9223372036854775808 ≤ k) (hk2 : k < 9223372036854775808) (hd : x.dead = false) (hN : isName nm.data.toList = true) (hr : 0 ≤ k ∧ ((x.now.at (ls nm)).length : Int) < k) : Calls Try.prog 41 #[v, .agg #[.int .i64 (0 : Int), .string nm, .string tn, .int .i64 k, .string s]] w fun e w' => e = .returned (.int .i64 1) ∧ Below w.heap.size w w' := by
  obtain ⟨ao, n, cs, al, cl, ap, cp, rfl⟩ := hv.form
  have s1 : (w.alloc (.cells #[.slice ao n cs, .slice al x.loose.length cl, .int .i64 (x.made : Int), .slice ap x.plan.length cp, .bool x.dead] 30)).heap.size = w.heap.size + 1 := by simp
  have hB : Below w.heap.size w ((w.alloc (.cells #[.slice ao n cs, .slice al x.loose.length cl, .int .i64 (x.made : Int), .slice ap x.plan.length cp, .bool x.dead] 30)).alloc (.cells #[.int .i64 (0 : Int), .string nm, .string tn, .int .i64 k, .string s] 53)) := ((Below.refl w.heap.size w).alloc (Nat.le_refl _) _).alloc (by rw [s1]; omega) _
  have r1 : ((w.alloc (.cells #[.slice ao n cs, .slice al x.loose.length cl, .int .i64 (x.made : Int), .slice ap x.plan.length cp, .bool x.dead] 30)).alloc (.cells #[.int .i64 (0 : Int), .string nm, .string tn, .int .i64 k, .string s] 53)).heap[w.heap.size]? = some (.cells #[.slice ao n cs, .slice al x.loose.length cl, .int .i64 (x.made : Int), .slice ap x.plan.length cp, .bool x.dead] 30 (0, 0)) := (Below.heap_alloc _ _ _ (by rw [s1]; omega)).trans (heap_alloc_last w _)
  have r2 : ((w.alloc (.cells #[.slice ao n cs, .slice al x.loose.length cl, .int .i64 (x.made : Int), .slice ap x.plan.length cp, .bool x.dead] 30)).alloc (.cells #[.int .i64 (0 : Int), .string nm, .string tn, .int .i64 k, .string s] 53)).heap[w.heap.size + 1]? = some (.cells #[.int .i64 (0 : Int), .string nm, .string tn, .int .i64 k, .string s] 53 (0, 0)) := by
    have := heap_alloc_last (w.alloc (.cells #[.slice ao n cs, .slice al x.loose.length cl, .int .i64 (x.made : Int), .slice ap x.plan.length cp, .bool x.dead] 30)) (.cells #[.int .i64 (0 : Int), .string nm, .string tn, .int .i64 k, .string s] 53)
    rw [s1] at this
    exact this
  have HB := hide hB
  have H1 := hide (hv.next hB)
  have HK : Hid (∀ g, K g → g < ((w.alloc (.cells #[.slice ao n cs, .slice al x.loose.length cl, .int .i64 (x.made : Int), .slice ap x.plan.length cp, .bool x.dead] 30)).alloc (.cells #[.int .i64 (0 : Int), .string nm, .string tn, .int .i64 k, .string s] 53)).heap.size) := fun g hg => Nat.lt_of_lt_of_le (hK g hg) hB.size
  have HVd := hide hV
  have CC : Hid (∀ W, Below ((w.alloc (.cells #[.slice ao n cs, .slice al x.loose.length cl, .int .i64 (x.made : Int), .slice ap x.plan.length cp, .bool x.dead] 30)).alloc (.cells #[.int .i64 (0 : Int), .string nm, .string tn, .int .i64 k, .string s] 53)).heap.size ((w.alloc (.cells #[.slice ao n cs, .slice al x.loose.length cl, .int .i64 (x.made : Int), .slice ap x.plan.length cp, .bool x.dead] 30)).alloc (.cells #[.int .i64 (0 : Int), .string nm, .string tn, .int .i64 k, .string s] 53)) W → W.heap[w.heap.size]? = some (.cells #[.slice ao n cs, .slice al x.loose.length cl, .int .i64 (x.made : Int), .slice ap x.plan.length cp, .bool x.dead] 30 (0, 0)) ∧ W.cell? ⟨w.heap.size, 4, none⟩ = some (.bool x.dead) ∧ W.cell? ⟨w.heap.size + 1, 0, none⟩ = some (.int .i64 (0 : Int)) ∧ W.cell? ⟨w.heap.size + 1, 1, none⟩ = some (.string nm) ∧ W.cell? ⟨w.heap.size + 1, 2, none⟩ = some (.string tn) ∧ W.cell? ⟨w.heap.size + 1, 3, none⟩ = some (.int .i64 k) ∧ W.cell? ⟨w.heap.size + 1, 4, none⟩ = some (.string s)) := fun W b => by
    have e1 := (b.block _ (lt_heap r1)).trans r1
    have e2 := (b.block _ (lt_heap r2)).trans r2
    refine ⟨e1, ?_, ?_, ?_, ?_, ?_, ?_⟩
    · rw [cell_of_row _ _ _ _ _ _ e1]; rfl
    · rw [cell_of_row _ _ _ _ _ _ e2]; rfl
    · rw [cell_of_row _ _ _ _ _ _ e2]; rfl
    · rw [cell_of_row _ _ _ _ _ _ e2]; rfl
    · rw [cell_of_row _ _ _ _ _ _ e2]; rfl
    · rw [cell_of_row _ _ _ _ _ _ e2]; rfl
  have HDD := hide hd
  have HInm : Hid (∀ W, Calls Try.prog 34 #[.string nm] W fun e w' => e = .returned (.bool true) ∧ w' = W) := fun W => by
    have := risName_any nm W hm
    rw [hN] at this
    exact this
  have HX := hide (And.intro hk1 (And.intro hk2 (And.intro hm (And.intro htn hs))))
  have HhN := hide hN
  have Hhr := hide hr
  clear hB r1 r2 hv hV hK hm htn hs hk1 hk2 hd hN hr
  go_enter Try.func41, Try.ntmps41
  go_upto_region 1 with fail
  try rw [s1]
  clear s1
  generalize ((w.alloc (.cells #[.slice ao n cs, .slice al x.loose.length cl, .int .i64 (x.made : Int), .slice ap x.plan.length cp, .bool x.dead] 30)).alloc (.cells #[.int .i64 (0 : Int), .string nm, .string tn, .int .i64 k, .string s] 53)) = W0 at *
  obtain ⟨c, d4, c0, c1, c2, c3, c4⟩ := CC.out _ (Below.refl _ _)
  rw [HDD.out] at d4
  clear c
  go_upto_region 5 with (first | (go_at_call 34; with_reducible (refine (HInm.out _).mono ?_); rintro e W2 ⟨rfl, hw2⟩; subst W2))
  have R0 := hide (CC.out _ (Below.refl _ _)).1
  go_upto_region 6 with (first | ((with_reducible refine at_list ?_); refine wpList_loadA ADd rfl _ rfl w.heap.size rfl _ rfl _ R0.out ?_) | (go_at_call 33; refine (rget_any K x _ nm _ H1.out HVd.out HK.out).mono ?_; rintro e W2 ⟨t, ht, rfl, b2⟩; have TS : Hid (t.size = (x.now.at (ls nm)).length) := (by show _ = _; rw [← ht, ls_len]); have B2 := hide b2; clear ht b2))
  clear d4 c0 c1 c2 c3 c4 R0
  obtain ⟨c, d4, c0, c1, c2, c3, c4⟩ := CC.out _ B2.out
  have R2 := hide c
  rw [HDD.out] at d4
  clear c
  have q1 : ¬ k < 0 := by have := Hhr.out; omega
  have q2 : (t.size : Int) < k := by have := Hhr.out; rw [TS.out]; omega
  go_wp2
  go_ret
  exact ⟨rfl, below_next HB.out B2.out⟩
theorem rw_0big (nm tn : ByteArray) (k : Int) (s : ByteArray) (hv : isD K w v x) (hV : Vd x) (hK : ∀ g, K g → g < w.heap.size) (hm : nm.size ≤ maxLen) (htn : tn.size ≤ maxLen) (hs : s.size ≤ maxLen) (hk1 : -9223372036854775808 ≤ k) (hk2 : k < 9223372036854775808) (hd : x.dead = false) (hN : isName nm.data.toList = true) (hr : 0 ≤ k ∧ k ≤ ((x.now.at (ls nm)).length : Int)) (hb : 16777216 - k < (s.size : Int)) : Calls Try.prog 41 #[v, .agg #[.int .i64 (0 : Int), .string nm, .string tn, .int .i64 k, .string s]] w fun e w' => e = .returned (.int .i64 71) ∧ Below w.heap.size w w' := by
  obtain ⟨ao, n, cs, al, cl, ap, cp, rfl⟩ := hv.form
  have s1 : (w.alloc (.cells #[.slice ao n cs, .slice al x.loose.length cl, .int .i64 (x.made : Int), .slice ap x.plan.length cp, .bool x.dead] 30)).heap.size = w.heap.size + 1 := by simp
  have hB : Below w.heap.size w ((w.alloc (.cells #[.slice ao n cs, .slice al x.loose.length cl, .int .i64 (x.made : Int), .slice ap x.plan.length cp, .bool x.dead] 30)).alloc (.cells #[.int .i64 (0 : Int), .string nm, .string tn, .int .i64 k, .string s] 53)) := ((Below.refl w.heap.size w).alloc (Nat.le_refl _) _).alloc (by rw [s1]; omega) _
  have r1 : ((w.alloc (.cells #[.slice ao n cs, .slice al x.loose.length cl, .int .i64 (x.made : Int), .slice ap x.plan.length cp, .bool x.dead] 30)).alloc (.cells #[.int .i64 (0 : Int), .string nm, .string tn, .int .i64 k, .string s] 53)).heap[w.heap.size]? = some (.cells #[.slice ao n cs, .slice al x.loose.length cl, .int .i64 (x.made : Int), .slice ap x.plan.length cp, .bool x.dead] 30 (0, 0)) := (Below.heap_alloc _ _ _ (by rw [s1]; omega)).trans (heap_alloc_last w _)
  have r2 : ((w.alloc (.cells #[.slice ao n cs, .slice al x.loose.length cl, .int .i64 (x.made : Int), .slice ap x.plan.length cp, .bool x.dead] 30)).alloc (.cells #[.int .i64 (0 : Int), .string nm, .string tn, .int .i64 k, .string s] 53)).heap[w.heap.size + 1]? = some (.cells #[.int .i64 (0 : Int), .string nm, .string tn, .int .i64 k, .string s] 53 (0, 0)) := by
    have := heap_alloc_last (w.alloc (.cells #[.slice ao n cs, .slice al x.loose.length cl, .int .i64 (x.made : Int), .slice ap x.plan.length cp, .bool x.dead] 30)) (.cells #[.int .i64 (0 : Int), .string nm, .string tn, .int .i64 k, .string s] 53)
    rw [s1] at this
    exact this
  have HB := hide hB
  have H1 := hide (hv.next hB)
  have HK : Hid (∀ g, K g → g < ((w.alloc (.cells #[.slice ao n cs, .slice al x.loose.length cl, .int .i64 (x.made : Int), .slice ap x.plan.length cp, .bool x.dead] 30)).alloc (.cells #[.int .i64 (0 : Int), .string nm, .string tn, .int .i64 k, .string s] 53)).heap.size) := fun g hg => Nat.lt_of_lt_of_le (hK g hg) hB.size
  have HVd := hide hV
  have CC : Hid (∀ W, Below ((w.alloc (.cells #[.slice ao n cs, .slice al x.loose.length cl, .int .i64 (x.made : Int), .slice ap x.plan.length cp, .bool x.dead] 30)).alloc (.cells #[.int .i64 (0 : Int), .string nm, .string tn, .int .i64 k, .string s] 53)).heap.size ((w.alloc (.cells #[.slice ao n cs, .slice al x.loose.length cl, .int .i64 (x.made : Int), .slice ap x.plan.length cp, .bool x.dead] 30)).alloc (.cells #[.int .i64 (0 : Int), .string nm, .string tn, .int .i64 k, .string s] 53)) W → W.heap[w.heap.size]? = some (.cells #[.slice ao n cs, .slice al x.loose.length cl, .int .i64 (x.made : Int), .slice ap x.plan.length cp, .bool x.dead] 30 (0, 0)) ∧ W.cell? ⟨w.heap.size, 4, none⟩ = some (.bool x.dead) ∧ W.cell? ⟨w.heap.size + 1, 0, none⟩ = some (.int .i64 (0 : Int)) ∧ W.cell? ⟨w.heap.size + 1, 1, none⟩ = some (.string nm) ∧ W.cell? ⟨w.heap.size + 1, 2, none⟩ = some (.string tn) ∧ W.cell? ⟨w.heap.size + 1, 3, none⟩ = some (.int .i64 k) ∧ W.cell? ⟨w.heap.size + 1, 4, none⟩ = some (.string s)) := fun W b => by
    have e1 := (b.block _ (lt_heap r1)).trans r1
    have e2 := (b.block _ (lt_heap r2)).trans r2
    refine ⟨e1, ?_, ?_, ?_, ?_, ?_, ?_⟩
    · rw [cell_of_row _ _ _ _ _ _ e1]; rfl
    · rw [cell_of_row _ _ _ _ _ _ e2]; rfl
    · rw [cell_of_row _ _ _ _ _ _ e2]; rfl
    · rw [cell_of_row _ _ _ _ _ _ e2]; rfl
    · rw [cell_of_row _ _ _ _ _ _ e2]; rfl
    · rw [cell_of_row _ _ _ _ _ _ e2]; rfl
  have HDD := hide hd
  have HInm : Hid (∀ W, Calls Try.prog 34 #[.string nm] W fun e w' => e = .returned (.bool true) ∧ w' = W) := fun W => by
    have := risName_any nm W hm
    rw [hN] at this
    exact this
  have HX := hide (And.intro hk1 (And.intro hk2 (And.intro hm (And.intro htn hs))))
  have HhN := hide hN
  have Hhr := hide hr
  have Hhb := hide hb
  clear hB r1 r2 hv hV hK hm htn hs hk1 hk2 hd hN hr hb
  go_enter Try.func41, Try.ntmps41
  go_upto_region 1 with fail
  try rw [s1]
  clear s1
  generalize ((w.alloc (.cells #[.slice ao n cs, .slice al x.loose.length cl, .int .i64 (x.made : Int), .slice ap x.plan.length cp, .bool x.dead] 30)).alloc (.cells #[.int .i64 (0 : Int), .string nm, .string tn, .int .i64 k, .string s] 53)) = W0 at *
  obtain ⟨c, d4, c0, c1, c2, c3, c4⟩ := CC.out _ (Below.refl _ _)
  rw [HDD.out] at d4
  clear c
  go_upto_region 5 with (first | (go_at_call 34; with_reducible (refine (HInm.out _).mono ?_); rintro e W2 ⟨rfl, hw2⟩; subst W2))
  have R0 := hide (CC.out _ (Below.refl _ _)).1
  go_upto_region 6 with (first | ((with_reducible refine at_list ?_); refine wpList_loadA ADd rfl _ rfl w.heap.size rfl _ rfl _ R0.out ?_) | (go_at_call 33; refine (rget_any K x _ nm _ H1.out HVd.out HK.out).mono ?_; rintro e W2 ⟨t, ht, rfl, b2⟩; have TS : Hid (t.size = (x.now.at (ls nm)).length) := (by show _ = _; rw [← ht, ls_len]); have B2 := hide b2; clear ht b2))
  clear d4 c0 c1 c2 c3 c4 R0
  obtain ⟨c, d4, c0, c1, c2, c3, c4⟩ := CC.out _ B2.out
  have R2 := hide c
  rw [HDD.out] at d4
  clear c
  have q1 : ¬ k < 0 := by have := Hhr.out; omega
  have q2 : ¬ (t.size : Int) < k := by have := Hhr.out; rw [TS.out]; omega
  have q5 : IntKind.i64.wrap (16777216 - k) = 16777216 - k := wrapI _ (by have := Hhr.out; have h9 := HVd.out.bd2.len (ls nm); omega) (by have := Hhr.out; omega)
  have q6 : 16777216 - k < (s.size : Int) := Hhb.out
  go_wp2
  go_ret
  exact ⟨rfl, below_next HB.out B2.out⟩
theorem rw_0ok (nm tn : ByteArray) (k : Int) (s : ByteArray) (hv : isD K w v x) (hV : Vd x) (hK : ∀ g, K g → g < w.heap.size) (hm : nm.size ≤ maxLen) (htn : tn.size ≤ maxLen) (hs : s.size ≤ maxLen) (hk1 : -9223372036854775808 ≤ k) (hk2 : k < 9223372036854775808) (hd : x.dead = false) (hN : isName nm.data.toList = true) (hr : 0 ≤ k ∧ k ≤ ((x.now.at (ls nm)).length : Int)) (hb : ¬ 16777216 - k < (s.size : Int)) (hg : (x.now.get (ls nm)).isSome = true) : Calls Try.prog 41 #[v, .agg #[.int .i64 (0 : Int), .string nm, .string tn, .int .i64 k, .string s]] w fun e w' => e = .returned (.int .i64 0) ∧ Below w.heap.size w w' := by
  obtain ⟨ao, n, cs, al, cl, ap, cp, rfl⟩ := hv.form
  have s1 : (w.alloc (.cells #[.slice ao n cs, .slice al x.loose.length cl, .int .i64 (x.made : Int), .slice ap x.plan.length cp, .bool x.dead] 30)).heap.size = w.heap.size + 1 := by simp
  have hB : Below w.heap.size w ((w.alloc (.cells #[.slice ao n cs, .slice al x.loose.length cl, .int .i64 (x.made : Int), .slice ap x.plan.length cp, .bool x.dead] 30)).alloc (.cells #[.int .i64 (0 : Int), .string nm, .string tn, .int .i64 k, .string s] 53)) := ((Below.refl w.heap.size w).alloc (Nat.le_refl _) _).alloc (by rw [s1]; omega) _
  have r1 : ((w.alloc (.cells #[.slice ao n cs, .slice al x.loose.length cl, .int .i64 (x.made : Int), .slice ap x.plan.length cp, .bool x.dead] 30)).alloc (.cells #[.int .i64 (0 : Int), .string nm, .string tn, .int .i64 k, .string s] 53)).heap[w.heap.size]? = some (.cells #[.slice ao n cs, .slice al x.loose.length cl, .int .i64 (x.made : Int), .slice ap x.plan.length cp, .bool x.dead] 30 (0, 0)) := (Below.heap_alloc _ _ _ (by rw [s1]; omega)).trans (heap_alloc_last w _)
  have r2 : ((w.alloc (.cells #[.slice ao n cs, .slice al x.loose.length cl, .int .i64 (x.made : Int), .slice ap x.plan.length cp, .bool x.dead] 30)).alloc (.cells #[.int .i64 (0 : Int), .string nm, .string tn, .int .i64 k, .string s] 53)).heap[w.heap.size + 1]? = some (.cells #[.int .i64 (0 : Int), .string nm, .string tn, .int .i64 k, .string s] 53 (0, 0)) := by
    have := heap_alloc_last (w.alloc (.cells #[.slice ao n cs, .slice al x.loose.length cl, .int .i64 (x.made : Int), .slice ap x.plan.length cp, .bool x.dead] 30)) (.cells #[.int .i64 (0 : Int), .string nm, .string tn, .int .i64 k, .string s] 53)
    rw [s1] at this
    exact this
  have HB := hide hB
  have H1 := hide (hv.next hB)
  have HK : Hid (∀ g, K g → g < ((w.alloc (.cells #[.slice ao n cs, .slice al x.loose.length cl, .int .i64 (x.made : Int), .slice ap x.plan.length cp, .bool x.dead] 30)).alloc (.cells #[.int .i64 (0 : Int), .string nm, .string tn, .int .i64 k, .string s] 53)).heap.size) := fun g hg => Nat.lt_of_lt_of_le (hK g hg) hB.size
  have HVd := hide hV
  have CC : Hid (∀ W, Below ((w.alloc (.cells #[.slice ao n cs, .slice al x.loose.length cl, .int .i64 (x.made : Int), .slice ap x.plan.length cp, .bool x.dead] 30)).alloc (.cells #[.int .i64 (0 : Int), .string nm, .string tn, .int .i64 k, .string s] 53)).heap.size ((w.alloc (.cells #[.slice ao n cs, .slice al x.loose.length cl, .int .i64 (x.made : Int), .slice ap x.plan.length cp, .bool x.dead] 30)).alloc (.cells #[.int .i64 (0 : Int), .string nm, .string tn, .int .i64 k, .string s] 53)) W → W.heap[w.heap.size]? = some (.cells #[.slice ao n cs, .slice al x.loose.length cl, .int .i64 (x.made : Int), .slice ap x.plan.length cp, .bool x.dead] 30 (0, 0)) ∧ W.cell? ⟨w.heap.size, 4, none⟩ = some (.bool x.dead) ∧ W.cell? ⟨w.heap.size + 1, 0, none⟩ = some (.int .i64 (0 : Int)) ∧ W.cell? ⟨w.heap.size + 1, 1, none⟩ = some (.string nm) ∧ W.cell? ⟨w.heap.size + 1, 2, none⟩ = some (.string tn) ∧ W.cell? ⟨w.heap.size + 1, 3, none⟩ = some (.int .i64 k) ∧ W.cell? ⟨w.heap.size + 1, 4, none⟩ = some (.string s)) := fun W b => by
    have e1 := (b.block _ (lt_heap r1)).trans r1
    have e2 := (b.block _ (lt_heap r2)).trans r2
    refine ⟨e1, ?_, ?_, ?_, ?_, ?_, ?_⟩
    · rw [cell_of_row _ _ _ _ _ _ e1]; rfl
    · rw [cell_of_row _ _ _ _ _ _ e2]; rfl
    · rw [cell_of_row _ _ _ _ _ _ e2]; rfl
    · rw [cell_of_row _ _ _ _ _ _ e2]; rfl
    · rw [cell_of_row _ _ _ _ _ _ e2]; rfl
    · rw [cell_of_row _ _ _ _ _ _ e2]; rfl
  have HDD := hide hd
  have HInm : Hid (∀ W, Calls Try.prog 34 #[.string nm] W fun e w' => e = .returned (.bool true) ∧ w' = W) := fun W => by
    have := risName_any nm W hm
    rw [hN] at this
    exact this
  have HX := hide (And.intro hk1 (And.intro hk2 (And.intro hm (And.intro htn hs))))
  have HhN := hide hN
  have Hhr := hide hr
  have Hhb := hide hb
  have Hhg := hide hg
  clear hB r1 r2 hv hV hK hm htn hs hk1 hk2 hd hN hr hb hg
  go_enter Try.func41, Try.ntmps41
  go_upto_region 1 with fail
  try rw [s1]
  clear s1
  generalize ((w.alloc (.cells #[.slice ao n cs, .slice al x.loose.length cl, .int .i64 (x.made : Int), .slice ap x.plan.length cp, .bool x.dead] 30)).alloc (.cells #[.int .i64 (0 : Int), .string nm, .string tn, .int .i64 k, .string s] 53)) = W0 at *
  obtain ⟨c, d4, c0, c1, c2, c3, c4⟩ := CC.out _ (Below.refl _ _)
  rw [HDD.out] at d4
  clear c
  go_upto_region 5 with (first | (go_at_call 34; with_reducible (refine (HInm.out _).mono ?_); rintro e W2 ⟨rfl, hw2⟩; subst W2))
  have R0 := hide (CC.out _ (Below.refl _ _)).1
  go_upto_region 6 with (first | ((with_reducible refine at_list ?_); refine wpList_loadA ADd rfl _ rfl w.heap.size rfl _ rfl _ R0.out ?_) | (go_at_call 33; refine (rget_any K x _ nm _ H1.out HVd.out HK.out).mono ?_; rintro e W2 ⟨t, ht, rfl, b2⟩; have TS : Hid (t.size = (x.now.at (ls nm)).length) := (by show _ = _; rw [← ht, ls_len]); have B2 := hide b2; clear ht b2))
  clear d4 c0 c1 c2 c3 c4 R0
  obtain ⟨c, d4, c0, c1, c2, c3, c4⟩ := CC.out _ B2.out
  have R2 := hide c
  rw [HDD.out] at d4
  clear c
  have q1 : ¬ k < 0 := by have := Hhr.out; omega
  have q2 : ¬ (t.size : Int) < k := by have := Hhr.out; rw [TS.out]; omega
  have q5 : IntKind.i64.wrap (16777216 - k) = 16777216 - k := wrapI _ (by have := Hhr.out; have h9 := HVd.out.bd2.len (ls nm); omega) (by have := Hhr.out; omega)
  have q6 : ¬ 16777216 - k < (s.size : Int) := by have := Hhb.out; omega
  have q7 := Hhg.out
  go_wp2
  go_ret
  exact ⟨rfl, below_next HB.out B2.out⟩
theorem rw_0full (nm tn : ByteArray) (k : Int) (s : ByteArray) (hv : isD K w v x) (hV : Vd x) (hK : ∀ g, K g → g < w.heap.size) (hm : nm.size ≤ maxLen) (htn : tn.size ≤ maxLen) (hs : s.size ≤ maxLen) (hk1 : -9223372036854775808 ≤ k) (hk2 : k < 9223372036854775808) (hd : x.dead = false) (hN : isName nm.data.toList = true) (hr : 0 ≤ k ∧ k ≤ ((x.now.at (ls nm)).length : Int)) (hb : ¬ 16777216 - k < (s.size : Int)) (hg : (x.now.get (ls nm)).isSome = false) (hf : 64 ≤ x.now.n) : Calls Try.prog 41 #[v, .agg #[.int .i64 (0 : Int), .string nm, .string tn, .int .i64 k, .string s]] w fun e w' => e = .returned (.int .i64 71) ∧ Below w.heap.size w w' := by
  obtain ⟨ao, n, cs, al, cl, ap, cp, rfl⟩ := hv.form
  have s1 : (w.alloc (.cells #[.slice ao n cs, .slice al x.loose.length cl, .int .i64 (x.made : Int), .slice ap x.plan.length cp, .bool x.dead] 30)).heap.size = w.heap.size + 1 := by simp
  have hB : Below w.heap.size w ((w.alloc (.cells #[.slice ao n cs, .slice al x.loose.length cl, .int .i64 (x.made : Int), .slice ap x.plan.length cp, .bool x.dead] 30)).alloc (.cells #[.int .i64 (0 : Int), .string nm, .string tn, .int .i64 k, .string s] 53)) := ((Below.refl w.heap.size w).alloc (Nat.le_refl _) _).alloc (by rw [s1]; omega) _
  have r1 : ((w.alloc (.cells #[.slice ao n cs, .slice al x.loose.length cl, .int .i64 (x.made : Int), .slice ap x.plan.length cp, .bool x.dead] 30)).alloc (.cells #[.int .i64 (0 : Int), .string nm, .string tn, .int .i64 k, .string s] 53)).heap[w.heap.size]? = some (.cells #[.slice ao n cs, .slice al x.loose.length cl, .int .i64 (x.made : Int), .slice ap x.plan.length cp, .bool x.dead] 30 (0, 0)) := (Below.heap_alloc _ _ _ (by rw [s1]; omega)).trans (heap_alloc_last w _)
  have r2 : ((w.alloc (.cells #[.slice ao n cs, .slice al x.loose.length cl, .int .i64 (x.made : Int), .slice ap x.plan.length cp, .bool x.dead] 30)).alloc (.cells #[.int .i64 (0 : Int), .string nm, .string tn, .int .i64 k, .string s] 53)).heap[w.heap.size + 1]? = some (.cells #[.int .i64 (0 : Int), .string nm, .string tn, .int .i64 k, .string s] 53 (0, 0)) := by
    have := heap_alloc_last (w.alloc (.cells #[.slice ao n cs, .slice al x.loose.length cl, .int .i64 (x.made : Int), .slice ap x.plan.length cp, .bool x.dead] 30)) (.cells #[.int .i64 (0 : Int), .string nm, .string tn, .int .i64 k, .string s] 53)
    rw [s1] at this
    exact this
  have HB := hide hB
  have H1 := hide (hv.next hB)
  have HK : Hid (∀ g, K g → g < ((w.alloc (.cells #[.slice ao n cs, .slice al x.loose.length cl, .int .i64 (x.made : Int), .slice ap x.plan.length cp, .bool x.dead] 30)).alloc (.cells #[.int .i64 (0 : Int), .string nm, .string tn, .int .i64 k, .string s] 53)).heap.size) := fun g hg => Nat.lt_of_lt_of_le (hK g hg) hB.size
  have HVd := hide hV
  have CC : Hid (∀ W, Below ((w.alloc (.cells #[.slice ao n cs, .slice al x.loose.length cl, .int .i64 (x.made : Int), .slice ap x.plan.length cp, .bool x.dead] 30)).alloc (.cells #[.int .i64 (0 : Int), .string nm, .string tn, .int .i64 k, .string s] 53)).heap.size ((w.alloc (.cells #[.slice ao n cs, .slice al x.loose.length cl, .int .i64 (x.made : Int), .slice ap x.plan.length cp, .bool x.dead] 30)).alloc (.cells #[.int .i64 (0 : Int), .string nm, .string tn, .int .i64 k, .string s] 53)) W → W.heap[w.heap.size]? = some (.cells #[.slice ao n cs, .slice al x.loose.length cl, .int .i64 (x.made : Int), .slice ap x.plan.length cp, .bool x.dead] 30 (0, 0)) ∧ W.cell? ⟨w.heap.size, 4, none⟩ = some (.bool x.dead) ∧ W.cell? ⟨w.heap.size + 1, 0, none⟩ = some (.int .i64 (0 : Int)) ∧ W.cell? ⟨w.heap.size + 1, 1, none⟩ = some (.string nm) ∧ W.cell? ⟨w.heap.size + 1, 2, none⟩ = some (.string tn) ∧ W.cell? ⟨w.heap.size + 1, 3, none⟩ = some (.int .i64 k) ∧ W.cell? ⟨w.heap.size + 1, 4, none⟩ = some (.string s)) := fun W b => by
    have e1 := (b.block _ (lt_heap r1)).trans r1
    have e2 := (b.block _ (lt_heap r2)).trans r2
    refine ⟨e1, ?_, ?_, ?_, ?_, ?_, ?_⟩
    · rw [cell_of_row _ _ _ _ _ _ e1]; rfl
    · rw [cell_of_row _ _ _ _ _ _ e2]; rfl
    · rw [cell_of_row _ _ _ _ _ _ e2]; rfl
    · rw [cell_of_row _ _ _ _ _ _ e2]; rfl
    · rw [cell_of_row _ _ _ _ _ _ e2]; rfl
    · rw [cell_of_row _ _ _ _ _ _ e2]; rfl
  have HDD := hide hd
  have HInm : Hid (∀ W, Calls Try.prog 34 #[.string nm] W fun e w' => e = .returned (.bool true) ∧ w' = W) := fun W => by
    have := risName_any nm W hm
    rw [hN] at this
    exact this
  have HX := hide (And.intro hk1 (And.intro hk2 (And.intro hm (And.intro htn hs))))
  have HhN := hide hN
  have Hhr := hide hr
  have Hhb := hide hb
  have Hhg := hide hg
  have Hhf := hide hf
  clear hB r1 r2 hv hV hK hm htn hs hk1 hk2 hd hN hr hb hg hf
  go_enter Try.func41, Try.ntmps41
  go_upto_region 1 with fail
  try rw [s1]
  clear s1
  generalize ((w.alloc (.cells #[.slice ao n cs, .slice al x.loose.length cl, .int .i64 (x.made : Int), .slice ap x.plan.length cp, .bool x.dead] 30)).alloc (.cells #[.int .i64 (0 : Int), .string nm, .string tn, .int .i64 k, .string s] 53)) = W0 at *
  obtain ⟨c, d4, c0, c1, c2, c3, c4⟩ := CC.out _ (Below.refl _ _)
  rw [HDD.out] at d4
  clear c
  go_upto_region 5 with (first | (go_at_call 34; with_reducible (refine (HInm.out _).mono ?_); rintro e W2 ⟨rfl, hw2⟩; subst W2))
  have R0 := hide (CC.out _ (Below.refl _ _)).1
  go_upto_region 6 with (first | ((with_reducible refine at_list ?_); refine wpList_loadA ADd rfl _ rfl w.heap.size rfl _ rfl _ R0.out ?_) | (go_at_call 33; refine (rget_any K x _ nm _ H1.out HVd.out HK.out).mono ?_; rintro e W2 ⟨t, ht, rfl, b2⟩; have TS : Hid (t.size = (x.now.at (ls nm)).length) := (by show _ = _; rw [← ht, ls_len]); have B2 := hide b2; clear ht b2))
  clear d4 c0 c1 c2 c3 c4 R0
  obtain ⟨c, d4, c0, c1, c2, c3, c4⟩ := CC.out _ B2.out
  have R2 := hide c
  rw [HDD.out] at d4
  clear c
  have q1 : ¬ k < 0 := by have := Hhr.out; omega
  have q2 : ¬ (t.size : Int) < k := by have := Hhr.out; rw [TS.out]; omega
  have q5 : IntKind.i64.wrap (16777216 - k) = 16777216 - k := wrapI _ (by have := Hhr.out; have h9 := HVd.out.bd2.len (ls nm); omega) (by have := Hhr.out; omega)
  have q6 : ¬ 16777216 - k < (s.size : Int) := by have := Hhb.out; omega
  have q7 := Hhg.out
  have H2 := hide (H1.out.next B2.out)
  have HK2 : Hid (∀ g, K g → g < W2.heap.size) := fun g hg => Nat.lt_of_lt_of_le (HK.out g hg) B2.out.size
  go_wp2_with (first | ((with_reducible refine at_list ?_); refine wpList_loadAG ADd _ rfl w.heap.size rfl _ rfl _ R2.out (by rfl) ?_) | (go_at_call 24; refine (rfiles_any K x _ _ H2.out HVd.out HK2.out).mono ?_; rintro e W3 ⟨v3, L3, rfl, k3, r3, b3⟩; have LN : Hid (L3.length = x.now.n) := r3.n.symm; obtain ⟨a3, cc3, rfl⟩ := k3.form; have q8 : (64 : Int) ≤ (L3.length : Int) := (by rw [LN.out]; have := Hhf.out; omega); have B3 := hide b3; clear k3 r3 b3))
  go_ret
  exact ⟨rfl, below_next HB.out (below_next B2.out B3.out)⟩
theorem rw_0new (nm tn : ByteArray) (k : Int) (s : ByteArray) (hv : isD K w v x) (hV : Vd x) (hK : ∀ g, K g → g < w.heap.size) (hm : nm.size ≤ maxLen) (htn : tn.size ≤ maxLen) (hs : s.size ≤ maxLen) (hk1 : -9223372036854775808 ≤ k) (hk2 : k < 9223372036854775808) (hd : x.dead = false) (hN : isName nm.data.toList = true) (hr : 0 ≤ k ∧ k ≤ ((x.now.at (ls nm)).length : Int)) (hb : ¬ 16777216 - k < (s.size : Int)) (hg : (x.now.get (ls nm)).isSome = false) (hf : x.now.n < 64) : Calls Try.prog 41 #[v, .agg #[.int .i64 (0 : Int), .string nm, .string tn, .int .i64 k, .string s]] w fun e w' => e = .returned (.int .i64 0) ∧ Below w.heap.size w w' := by
  obtain ⟨ao, n, cs, al, cl, ap, cp, rfl⟩ := hv.form
  have s1 : (w.alloc (.cells #[.slice ao n cs, .slice al x.loose.length cl, .int .i64 (x.made : Int), .slice ap x.plan.length cp, .bool x.dead] 30)).heap.size = w.heap.size + 1 := by simp
  have hB : Below w.heap.size w ((w.alloc (.cells #[.slice ao n cs, .slice al x.loose.length cl, .int .i64 (x.made : Int), .slice ap x.plan.length cp, .bool x.dead] 30)).alloc (.cells #[.int .i64 (0 : Int), .string nm, .string tn, .int .i64 k, .string s] 53)) := ((Below.refl w.heap.size w).alloc (Nat.le_refl _) _).alloc (by rw [s1]; omega) _
  have r1 : ((w.alloc (.cells #[.slice ao n cs, .slice al x.loose.length cl, .int .i64 (x.made : Int), .slice ap x.plan.length cp, .bool x.dead] 30)).alloc (.cells #[.int .i64 (0 : Int), .string nm, .string tn, .int .i64 k, .string s] 53)).heap[w.heap.size]? = some (.cells #[.slice ao n cs, .slice al x.loose.length cl, .int .i64 (x.made : Int), .slice ap x.plan.length cp, .bool x.dead] 30 (0, 0)) := (Below.heap_alloc _ _ _ (by rw [s1]; omega)).trans (heap_alloc_last w _)
  have r2 : ((w.alloc (.cells #[.slice ao n cs, .slice al x.loose.length cl, .int .i64 (x.made : Int), .slice ap x.plan.length cp, .bool x.dead] 30)).alloc (.cells #[.int .i64 (0 : Int), .string nm, .string tn, .int .i64 k, .string s] 53)).heap[w.heap.size + 1]? = some (.cells #[.int .i64 (0 : Int), .string nm, .string tn, .int .i64 k, .string s] 53 (0, 0)) := by
    have := heap_alloc_last (w.alloc (.cells #[.slice ao n cs, .slice al x.loose.length cl, .int .i64 (x.made : Int), .slice ap x.plan.length cp, .bool x.dead] 30)) (.cells #[.int .i64 (0 : Int), .string nm, .string tn, .int .i64 k, .string s] 53)
    rw [s1] at this
    exact this
  have HB := hide hB
  have H1 := hide (hv.next hB)
  have HK : Hid (∀ g, K g → g < ((w.alloc (.cells #[.slice ao n cs, .slice al x.loose.length cl, .int .i64 (x.made : Int), .slice ap x.plan.length cp, .bool x.dead] 30)).alloc (.cells #[.int .i64 (0 : Int), .string nm, .string tn, .int .i64 k, .string s] 53)).heap.size) := fun g hg => Nat.lt_of_lt_of_le (hK g hg) hB.size
  have HVd := hide hV
  have CC : Hid (∀ W, Below ((w.alloc (.cells #[.slice ao n cs, .slice al x.loose.length cl, .int .i64 (x.made : Int), .slice ap x.plan.length cp, .bool x.dead] 30)).alloc (.cells #[.int .i64 (0 : Int), .string nm, .string tn, .int .i64 k, .string s] 53)).heap.size ((w.alloc (.cells #[.slice ao n cs, .slice al x.loose.length cl, .int .i64 (x.made : Int), .slice ap x.plan.length cp, .bool x.dead] 30)).alloc (.cells #[.int .i64 (0 : Int), .string nm, .string tn, .int .i64 k, .string s] 53)) W → W.heap[w.heap.size]? = some (.cells #[.slice ao n cs, .slice al x.loose.length cl, .int .i64 (x.made : Int), .slice ap x.plan.length cp, .bool x.dead] 30 (0, 0)) ∧ W.cell? ⟨w.heap.size, 4, none⟩ = some (.bool x.dead) ∧ W.cell? ⟨w.heap.size + 1, 0, none⟩ = some (.int .i64 (0 : Int)) ∧ W.cell? ⟨w.heap.size + 1, 1, none⟩ = some (.string nm) ∧ W.cell? ⟨w.heap.size + 1, 2, none⟩ = some (.string tn) ∧ W.cell? ⟨w.heap.size + 1, 3, none⟩ = some (.int .i64 k) ∧ W.cell? ⟨w.heap.size + 1, 4, none⟩ = some (.string s)) := fun W b => by
    have e1 := (b.block _ (lt_heap r1)).trans r1
    have e2 := (b.block _ (lt_heap r2)).trans r2
    refine ⟨e1, ?_, ?_, ?_, ?_, ?_, ?_⟩
    · rw [cell_of_row _ _ _ _ _ _ e1]; rfl
    · rw [cell_of_row _ _ _ _ _ _ e2]; rfl
    · rw [cell_of_row _ _ _ _ _ _ e2]; rfl
    · rw [cell_of_row _ _ _ _ _ _ e2]; rfl
    · rw [cell_of_row _ _ _ _ _ _ e2]; rfl
    · rw [cell_of_row _ _ _ _ _ _ e2]; rfl
  have HDD := hide hd
  have HInm : Hid (∀ W, Calls Try.prog 34 #[.string nm] W fun e w' => e = .returned (.bool true) ∧ w' = W) := fun W => by
    have := risName_any nm W hm
    rw [hN] at this
    exact this
  have HX := hide (And.intro hk1 (And.intro hk2 (And.intro hm (And.intro htn hs))))
  have HhN := hide hN
  have Hhr := hide hr
  have Hhb := hide hb
  have Hhg := hide hg
  have Hhf := hide hf
  clear hB r1 r2 hv hV hK hm htn hs hk1 hk2 hd hN hr hb hg hf
  go_enter Try.func41, Try.ntmps41
  go_upto_region 1 with fail
  try rw [s1]
  clear s1
  generalize ((w.alloc (.cells #[.slice ao n cs, .slice al x.loose.length cl, .int .i64 (x.made : Int), .slice ap x.plan.length cp, .bool x.dead] 30)).alloc (.cells #[.int .i64 (0 : Int), .string nm, .string tn, .int .i64 k, .string s] 53)) = W0 at *
  obtain ⟨c, d4, c0, c1, c2, c3, c4⟩ := CC.out _ (Below.refl _ _)
  rw [HDD.out] at d4
  clear c
  go_upto_region 5 with (first | (go_at_call 34; with_reducible (refine (HInm.out _).mono ?_); rintro e W2 ⟨rfl, hw2⟩; subst W2))
  have R0 := hide (CC.out _ (Below.refl _ _)).1
  go_upto_region 6 with (first | ((with_reducible refine at_list ?_); refine wpList_loadA ADd rfl _ rfl w.heap.size rfl _ rfl _ R0.out ?_) | (go_at_call 33; refine (rget_any K x _ nm _ H1.out HVd.out HK.out).mono ?_; rintro e W2 ⟨t, ht, rfl, b2⟩; have TS : Hid (t.size = (x.now.at (ls nm)).length) := (by show _ = _; rw [← ht, ls_len]); have B2 := hide b2; clear ht b2))
  clear d4 c0 c1 c2 c3 c4 R0
  obtain ⟨c, d4, c0, c1, c2, c3, c4⟩ := CC.out _ B2.out
  have R2 := hide c
  rw [HDD.out] at d4
  clear c
  have q1 : ¬ k < 0 := by have := Hhr.out; omega
  have q2 : ¬ (t.size : Int) < k := by have := Hhr.out; rw [TS.out]; omega
  have q5 : IntKind.i64.wrap (16777216 - k) = 16777216 - k := wrapI _ (by have := Hhr.out; have h9 := HVd.out.bd2.len (ls nm); omega) (by have := Hhr.out; omega)
  have q6 : ¬ 16777216 - k < (s.size : Int) := by have := Hhb.out; omega
  have q7 := Hhg.out
  have H2 := hide (H1.out.next B2.out)
  have HK2 : Hid (∀ g, K g → g < W2.heap.size) := fun g hg => Nat.lt_of_lt_of_le (HK.out g hg) B2.out.size
  go_wp2_with (first | ((with_reducible refine at_list ?_); refine wpList_loadAG ADd _ rfl w.heap.size rfl _ rfl _ R2.out (by rfl) ?_) | (go_at_call 24; refine (rfiles_any K x _ _ H2.out HVd.out HK2.out).mono ?_; rintro e W3 ⟨v3, L3, rfl, k3, r3, b3⟩; have LN : Hid (L3.length = x.now.n) := r3.n.symm; obtain ⟨a3, cc3, rfl⟩ := k3.form; have q8 : ¬ (64 : Int) ≤ (L3.length : Int) := (by rw [LN.out]; have := Hhf.out; omega); have B3 := hide b3; clear k3 r3 b3))
  go_ret
  exact ⟨rfl, below_next HB.out (below_next B2.out B3.out)⟩
theorem rw_1no (nm tn : ByteArray) (k : Int) (s : ByteArray) (hv : isD K w v x) (hV : Vd x) (hK : ∀ g, K g → g < w.heap.size) (hm : nm.size ≤ maxLen) (htn : tn.size ≤ maxLen) (hs : s.size ≤ maxLen) (hk1 : -9223372036854775808 ≤ k) (hk2 : k < 9223372036854775808) (hd : x.dead = false) (hN : isName nm.data.toList = true) (hg : (x.now.get (ls nm)).isSome = false) : Calls Try.prog 41 #[v, .agg #[.int .i64 (1 : Int), .string nm, .string tn, .int .i64 k, .string s]] w fun e w' => e = .returned (.int .i64 2) ∧ Below w.heap.size w w' := by
  obtain ⟨ao, n, cs, al, cl, ap, cp, rfl⟩ := hv.form
  have s1 : (w.alloc (.cells #[.slice ao n cs, .slice al x.loose.length cl, .int .i64 (x.made : Int), .slice ap x.plan.length cp, .bool x.dead] 30)).heap.size = w.heap.size + 1 := by simp
  have hB : Below w.heap.size w ((w.alloc (.cells #[.slice ao n cs, .slice al x.loose.length cl, .int .i64 (x.made : Int), .slice ap x.plan.length cp, .bool x.dead] 30)).alloc (.cells #[.int .i64 (1 : Int), .string nm, .string tn, .int .i64 k, .string s] 53)) := ((Below.refl w.heap.size w).alloc (Nat.le_refl _) _).alloc (by rw [s1]; omega) _
  have r1 : ((w.alloc (.cells #[.slice ao n cs, .slice al x.loose.length cl, .int .i64 (x.made : Int), .slice ap x.plan.length cp, .bool x.dead] 30)).alloc (.cells #[.int .i64 (1 : Int), .string nm, .string tn, .int .i64 k, .string s] 53)).heap[w.heap.size]? = some (.cells #[.slice ao n cs, .slice al x.loose.length cl, .int .i64 (x.made : Int), .slice ap x.plan.length cp, .bool x.dead] 30 (0, 0)) := (Below.heap_alloc _ _ _ (by rw [s1]; omega)).trans (heap_alloc_last w _)
  have r2 : ((w.alloc (.cells #[.slice ao n cs, .slice al x.loose.length cl, .int .i64 (x.made : Int), .slice ap x.plan.length cp, .bool x.dead] 30)).alloc (.cells #[.int .i64 (1 : Int), .string nm, .string tn, .int .i64 k, .string s] 53)).heap[w.heap.size + 1]? = some (.cells #[.int .i64 (1 : Int), .string nm, .string tn, .int .i64 k, .string s] 53 (0, 0)) := by
    have := heap_alloc_last (w.alloc (.cells #[.slice ao n cs, .slice al x.loose.length cl, .int .i64 (x.made : Int), .slice ap x.plan.length cp, .bool x.dead] 30)) (.cells #[.int .i64 (1 : Int), .string nm, .string tn, .int .i64 k, .string s] 53)
    rw [s1] at this
    exact this
  have HB := hide hB
  have H1 := hide (hv.next hB)
  have HK : Hid (∀ g, K g → g < ((w.alloc (.cells #[.slice ao n cs, .slice al x.loose.length cl, .int .i64 (x.made : Int), .slice ap x.plan.length cp, .bool x.dead] 30)).alloc (.cells #[.int .i64 (1 : Int), .string nm, .string tn, .int .i64 k, .string s] 53)).heap.size) := fun g hg => Nat.lt_of_lt_of_le (hK g hg) hB.size
  have HVd := hide hV
  have CC : Hid (∀ W, Below ((w.alloc (.cells #[.slice ao n cs, .slice al x.loose.length cl, .int .i64 (x.made : Int), .slice ap x.plan.length cp, .bool x.dead] 30)).alloc (.cells #[.int .i64 (1 : Int), .string nm, .string tn, .int .i64 k, .string s] 53)).heap.size ((w.alloc (.cells #[.slice ao n cs, .slice al x.loose.length cl, .int .i64 (x.made : Int), .slice ap x.plan.length cp, .bool x.dead] 30)).alloc (.cells #[.int .i64 (1 : Int), .string nm, .string tn, .int .i64 k, .string s] 53)) W → W.heap[w.heap.size]? = some (.cells #[.slice ao n cs, .slice al x.loose.length cl, .int .i64 (x.made : Int), .slice ap x.plan.length cp, .bool x.dead] 30 (0, 0)) ∧ W.cell? ⟨w.heap.size, 4, none⟩ = some (.bool x.dead) ∧ W.cell? ⟨w.heap.size + 1, 0, none⟩ = some (.int .i64 (1 : Int)) ∧ W.cell? ⟨w.heap.size + 1, 1, none⟩ = some (.string nm) ∧ W.cell? ⟨w.heap.size + 1, 2, none⟩ = some (.string tn) ∧ W.cell? ⟨w.heap.size + 1, 3, none⟩ = some (.int .i64 k) ∧ W.cell? ⟨w.heap.size + 1, 4, none⟩ = some (.string s)) := fun W b => by
    have e1 := (b.block _ (lt_heap r1)).trans r1
    have e2 := (b.block _ (lt_heap r2)).trans r2
    refine ⟨e1, ?_, ?_, ?_, ?_, ?_, ?_⟩
    · rw [cell_of_row _ _ _ _ _ _ e1]; rfl
    · rw [cell_of_row _ _ _ _ _ _ e2]; rfl
    · rw [cell_of_row _ _ _ _ _ _ e2]; rfl
    · rw [cell_of_row _ _ _ _ _ _ e2]; rfl
    · rw [cell_of_row _ _ _ _ _ _ e2]; rfl
    · rw [cell_of_row _ _ _ _ _ _ e2]; rfl
  have HDD := hide hd
  have HInm : Hid (∀ W, Calls Try.prog 34 #[.string nm] W fun e w' => e = .returned (.bool true) ∧ w' = W) := fun W => by
    have := risName_any nm W hm
    rw [hN] at this
    exact this
  have HX := hide (And.intro hk1 (And.intro hk2 (And.intro hm (And.intro htn hs))))
  have HhN := hide hN
  have Hhg := hide hg
  clear hB r1 r2 hv hV hK hm htn hs hk1 hk2 hd hN hg
  go_enter Try.func41, Try.ntmps41
  go_upto_region 1 with fail
  try rw [s1]
  clear s1
  generalize ((w.alloc (.cells #[.slice ao n cs, .slice al x.loose.length cl, .int .i64 (x.made : Int), .slice ap x.plan.length cp, .bool x.dead] 30)).alloc (.cells #[.int .i64 (1 : Int), .string nm, .string tn, .int .i64 k, .string s] 53)) = W0 at *
  obtain ⟨c, d4, c0, c1, c2, c3, c4⟩ := CC.out _ (Below.refl _ _)
  rw [HDD.out] at d4
  clear c
  go_upto_region 5 with (first | (go_at_call 34; with_reducible (refine (HInm.out _).mono ?_); rintro e W2 ⟨rfl, hw2⟩; subst W2))
  have R0 := hide (CC.out _ (Below.refl _ _)).1
  go_upto_region 6 with (first | ((with_reducible refine at_list ?_); refine wpList_loadA ADd rfl _ rfl w.heap.size rfl _ rfl _ R0.out ?_) | (go_at_call 33; refine (rget_any K x _ nm _ H1.out HVd.out HK.out).mono ?_; rintro e W2 ⟨t, ht, rfl, b2⟩; have TS : Hid (t.size = (x.now.at (ls nm)).length) := (by show _ = _; rw [← ht, ls_len]); have B2 := hide b2; clear ht b2))
  clear d4 c0 c1 c2 c3 c4 R0
  obtain ⟨c, d4, c0, c1, c2, c3, c4⟩ := CC.out _ B2.out
  have R2 := hide c
  rw [HDD.out] at d4
  clear c
  have q7 := Hhg.out
  go_wp2
  go_ret
  exact ⟨rfl, below_next HB.out B2.out⟩
theorem rw_1neg (nm tn : ByteArray) (k : Int) (s : ByteArray) (hv : isD K w v x) (hV : Vd x) (hK : ∀ g, K g → g < w.heap.size) (hm : nm.size ≤ maxLen) (htn : tn.size ≤ maxLen) (hs : s.size ≤ maxLen) (hk1 : -9223372036854775808 ≤ k) (hk2 : k < 9223372036854775808) (hd : x.dead = false) (hN : isName nm.data.toList = true) (hg : (x.now.get (ls nm)).isSome = true) (hr : k < 0) : Calls Try.prog 41 #[v, .agg #[.int .i64 (1 : Int), .string nm, .string tn, .int .i64 k, .string s]] w fun e w' => e = .returned (.int .i64 1) ∧ Below w.heap.size w w' := by
  obtain ⟨ao, n, cs, al, cl, ap, cp, rfl⟩ := hv.form
  have s1 : (w.alloc (.cells #[.slice ao n cs, .slice al x.loose.length cl, .int .i64 (x.made : Int), .slice ap x.plan.length cp, .bool x.dead] 30)).heap.size = w.heap.size + 1 := by simp
  have hB : Below w.heap.size w ((w.alloc (.cells #[.slice ao n cs, .slice al x.loose.length cl, .int .i64 (x.made : Int), .slice ap x.plan.length cp, .bool x.dead] 30)).alloc (.cells #[.int .i64 (1 : Int), .string nm, .string tn, .int .i64 k, .string s] 53)) := ((Below.refl w.heap.size w).alloc (Nat.le_refl _) _).alloc (by rw [s1]; omega) _
  have r1 : ((w.alloc (.cells #[.slice ao n cs, .slice al x.loose.length cl, .int .i64 (x.made : Int), .slice ap x.plan.length cp, .bool x.dead] 30)).alloc (.cells #[.int .i64 (1 : Int), .string nm, .string tn, .int .i64 k, .string s] 53)).heap[w.heap.size]? = some (.cells #[.slice ao n cs, .slice al x.loose.length cl, .int .i64 (x.made : Int), .slice ap x.plan.length cp, .bool x.dead] 30 (0, 0)) := (Below.heap_alloc _ _ _ (by rw [s1]; omega)).trans (heap_alloc_last w _)
  have r2 : ((w.alloc (.cells #[.slice ao n cs, .slice al x.loose.length cl, .int .i64 (x.made : Int), .slice ap x.plan.length cp, .bool x.dead] 30)).alloc (.cells #[.int .i64 (1 : Int), .string nm, .string tn, .int .i64 k, .string s] 53)).heap[w.heap.size + 1]? = some (.cells #[.int .i64 (1 : Int), .string nm, .string tn, .int .i64 k, .string s] 53 (0, 0)) := by
    have := heap_alloc_last (w.alloc (.cells #[.slice ao n cs, .slice al x.loose.length cl, .int .i64 (x.made : Int), .slice ap x.plan.length cp, .bool x.dead] 30)) (.cells #[.int .i64 (1 : Int), .string nm, .string tn, .int .i64 k, .string s] 53)
    rw [s1] at this
    exact this
  have HB := hide hB
  have H1 := hide (hv.next hB)
  have HK : Hid (∀ g, K g → g < ((w.alloc (.cells #[.slice ao n cs, .slice al x.loose.length cl, .int .i64 (x.made : Int), .slice ap x.plan.length cp, .bool x.dead] 30)).alloc (.cells #[.int .i64 (1 : Int), .string nm, .string tn, .int .i64 k, .string s] 53)).heap.size) := fun g hg => Nat.lt_of_lt_of_le (hK g hg) hB.size
  have HVd := hide hV
  have CC : Hid (∀ W, Below ((w.alloc (.cells #[.slice ao n cs, .slice al x.loose.length cl, .int .i64 (x.made : Int), .slice ap x.plan.length cp, .bool x.dead] 30)).alloc (.cells #[.int .i64 (1 : Int), .string nm, .string tn, .int .i64 k, .string s] 53)).heap.size ((w.alloc (.cells #[.slice ao n cs, .slice al x.loose.length cl, .int .i64 (x.made : Int), .slice ap x.plan.length cp, .bool x.dead] 30)).alloc (.cells #[.int .i64 (1 : Int), .string nm, .string tn, .int .i64 k, .string s] 53)) W → W.heap[w.heap.size]? = some (.cells #[.slice ao n cs, .slice al x.loose.length cl, .int .i64 (x.made : Int), .slice ap x.plan.length cp, .bool x.dead] 30 (0, 0)) ∧ W.cell? ⟨w.heap.size, 4, none⟩ = some (.bool x.dead) ∧ W.cell? ⟨w.heap.size + 1, 0, none⟩ = some (.int .i64 (1 : Int)) ∧ W.cell? ⟨w.heap.size + 1, 1, none⟩ = some (.string nm) ∧ W.cell? ⟨w.heap.size + 1, 2, none⟩ = some (.string tn) ∧ W.cell? ⟨w.heap.size + 1, 3, none⟩ = some (.int .i64 k) ∧ W.cell? ⟨w.heap.size + 1, 4, none⟩ = some (.string s)) := fun W b => by
    have e1 := (b.block _ (lt_heap r1)).trans r1
    have e2 := (b.block _ (lt_heap r2)).trans r2
    refine ⟨e1, ?_, ?_, ?_, ?_, ?_, ?_⟩
    · rw [cell_of_row _ _ _ _ _ _ e1]; rfl
    · rw [cell_of_row _ _ _ _ _ _ e2]; rfl
    · rw [cell_of_row _ _ _ _ _ _ e2]; rfl
    · rw [cell_of_row _ _ _ _ _ _ e2]; rfl
    · rw [cell_of_row _ _ _ _ _ _ e2]; rfl
    · rw [cell_of_row _ _ _ _ _ _ e2]; rfl
  have HDD := hide hd
  have HInm : Hid (∀ W, Calls Try.prog 34 #[.string nm] W fun e w' => e = .returned (.bool true) ∧ w' = W) := fun W => by
    have := risName_any nm W hm
    rw [hN] at this
    exact this
  have HX := hide (And.intro hk1 (And.intro hk2 (And.intro hm (And.intro htn hs))))
  have HhN := hide hN
  have Hhg := hide hg
  have Hhr := hide hr
  clear hB r1 r2 hv hV hK hm htn hs hk1 hk2 hd hN hg hr
  go_enter Try.func41, Try.ntmps41
  go_upto_region 1 with fail
  try rw [s1]
  clear s1
  generalize ((w.alloc (.cells #[.slice ao n cs, .slice al x.loose.length cl, .int .i64 (x.made : Int), .slice ap x.plan.length cp, .bool x.dead] 30)).alloc (.cells #[.int .i64 (1 : Int), .string nm, .string tn, .int .i64 k, .string s] 53)) = W0 at *
  obtain ⟨c, d4, c0, c1, c2, c3, c4⟩ := CC.out _ (Below.refl _ _)
  rw [HDD.out] at d4
  clear c
  go_upto_region 5 with (first | (go_at_call 34; with_reducible (refine (HInm.out _).mono ?_); rintro e W2 ⟨rfl, hw2⟩; subst W2))
  have R0 := hide (CC.out _ (Below.refl _ _)).1
  go_upto_region 6 with (first | ((with_reducible refine at_list ?_); refine wpList_loadA ADd rfl _ rfl w.heap.size rfl _ rfl _ R0.out ?_) | (go_at_call 33; refine (rget_any K x _ nm _ H1.out HVd.out HK.out).mono ?_; rintro e W2 ⟨t, ht, rfl, b2⟩; have TS : Hid (t.size = (x.now.at (ls nm)).length) := (by show _ = _; rw [← ht, ls_len]); have B2 := hide b2; clear ht b2))
  clear d4 c0 c1 c2 c3 c4 R0
  obtain ⟨c, d4, c0, c1, c2, c3, c4⟩ := CC.out _ B2.out
  have R2 := hide c
  rw [HDD.out] at d4
  clear c
  have q7 := Hhg.out
  have q1 : k < 0 := Hhr.out
  go_wp2
  go_ret
  exact ⟨rfl, below_next HB.out B2.out⟩
theorem rw_1far (nm tn : ByteArray) (k : Int) (s : ByteArray) (hv : isD K w v x) (hV : Vd x) (hK : ∀ g, K g → g < w.heap.size) (hm : nm.size ≤ maxLen) (htn : tn.size ≤ maxLen) (hs : s.size ≤ maxLen) (hk1 : -9223372036854775808 ≤ k) (hk2 : k < 9223372036854775808) (hd : x.dead = false) (hN : isName nm.data.toList = true) (hg : (x.now.get (ls nm)).isSome = true) (hr : 0 ≤ k ∧ ((x.now.at (ls nm)).length : Int) < k) : Calls Try.prog 41 #[v, .agg #[.int .i64 (1 : Int), .string nm, .string tn, .int .i64 k, .string s]] w fun e w' => e = .returned (.int .i64 1) ∧ Below w.heap.size w w' := by
  obtain ⟨ao, n, cs, al, cl, ap, cp, rfl⟩ := hv.form
  have s1 : (w.alloc (.cells #[.slice ao n cs, .slice al x.loose.length cl, .int .i64 (x.made : Int), .slice ap x.plan.length cp, .bool x.dead] 30)).heap.size = w.heap.size + 1 := by simp
  have hB : Below w.heap.size w ((w.alloc (.cells #[.slice ao n cs, .slice al x.loose.length cl, .int .i64 (x.made : Int), .slice ap x.plan.length cp, .bool x.dead] 30)).alloc (.cells #[.int .i64 (1 : Int), .string nm, .string tn, .int .i64 k, .string s] 53)) := ((Below.refl w.heap.size w).alloc (Nat.le_refl _) _).alloc (by rw [s1]; omega) _
  have r1 : ((w.alloc (.cells #[.slice ao n cs, .slice al x.loose.length cl, .int .i64 (x.made : Int), .slice ap x.plan.length cp, .bool x.dead] 30)).alloc (.cells #[.int .i64 (1 : Int), .string nm, .string tn, .int .i64 k, .string s] 53)).heap[w.heap.size]? = some (.cells #[.slice ao n cs, .slice al x.loose.length cl, .int .i64 (x.made : Int), .slice ap x.plan.length cp, .bool x.dead] 30 (0, 0)) := (Below.heap_alloc _ _ _ (by rw [s1]; omega)).trans (heap_alloc_last w _)
  have r2 : ((w.alloc (.cells #[.slice ao n cs, .slice al x.loose.length cl, .int .i64 (x.made : Int), .slice ap x.plan.length cp, .bool x.dead] 30)).alloc (.cells #[.int .i64 (1 : Int), .string nm, .string tn, .int .i64 k, .string s] 53)).heap[w.heap.size + 1]? = some (.cells #[.int .i64 (1 : Int), .string nm, .string tn, .int .i64 k, .string s] 53 (0, 0)) := by
    have := heap_alloc_last (w.alloc (.cells #[.slice ao n cs, .slice al x.loose.length cl, .int .i64 (x.made : Int), .slice ap x.plan.length cp, .bool x.dead] 30)) (.cells #[.int .i64 (1 : Int), .string nm, .string tn, .int .i64 k, .string s] 53)
    rw [s1] at this
    exact this
  have HB := hide hB
  have H1 := hide (hv.next hB)
  have HK : Hid (∀ g, K g → g < ((w.alloc (.cells #[.slice ao n cs, .slice al x.loose.length cl, .int .i64 (x.made : Int), .slice ap x.plan.length cp, .bool x.dead] 30)).alloc (.cells #[.int .i64 (1 : Int), .string nm, .string tn, .int .i64 k, .string s] 53)).heap.size) := fun g hg => Nat.lt_of_lt_of_le (hK g hg) hB.size
  have HVd := hide hV
  have CC : Hid (∀ W, Below ((w.alloc (.cells #[.slice ao n cs, .slice al x.loose.length cl, .int .i64 (x.made : Int), .slice ap x.plan.length cp, .bool x.dead] 30)).alloc (.cells #[.int .i64 (1 : Int), .string nm, .string tn, .int .i64 k, .string s] 53)).heap.size ((w.alloc (.cells #[.slice ao n cs, .slice al x.loose.length cl, .int .i64 (x.made : Int), .slice ap x.plan.length cp, .bool x.dead] 30)).alloc (.cells #[.int .i64 (1 : Int), .string nm, .string tn, .int .i64 k, .string s] 53)) W → W.heap[w.heap.size]? = some (.cells #[.slice ao n cs, .slice al x.loose.length cl, .int .i64 (x.made : Int), .slice ap x.plan.length cp, .bool x.dead] 30 (0, 0)) ∧ W.cell? ⟨w.heap.size, 4, none⟩ = some (.bool x.dead) ∧ W.cell? ⟨w.heap.size + 1, 0, none⟩ = some (.int .i64 (1 : Int)) ∧ W.cell? ⟨w.heap.size + 1, 1, none⟩ = some (.string nm) ∧ W.cell? ⟨w.heap.size + 1, 2, none⟩ = some (.string tn) ∧ W.cell? ⟨w.heap.size + 1, 3, none⟩ = some (.int .i64 k) ∧ W.cell? ⟨w.heap.size + 1, 4, none⟩ = some (.string s)) := fun W b => by
    have e1 := (b.block _ (lt_heap r1)).trans r1
    have e2 := (b.block _ (lt_heap r2)).trans r2
    refine ⟨e1, ?_, ?_, ?_, ?_, ?_, ?_⟩
    · rw [cell_of_row _ _ _ _ _ _ e1]; rfl
    · rw [cell_of_row _ _ _ _ _ _ e2]; rfl
    · rw [cell_of_row _ _ _ _ _ _ e2]; rfl
    · rw [cell_of_row _ _ _ _ _ _ e2]; rfl
    · rw [cell_of_row _ _ _ _ _ _ e2]; rfl
    · rw [cell_of_row _ _ _ _ _ _ e2]; rfl
  have HDD := hide hd
  have HInm : Hid (∀ W, Calls Try.prog 34 #[.string nm] W fun e w' => e = .returned (.bool true) ∧ w' = W) := fun W => by
    have := risName_any nm W hm
    rw [hN] at this
    exact this
  have HX := hide (And.intro hk1 (And.intro hk2 (And.intro hm (And.intro htn hs))))
  have HhN := hide hN
  have Hhg := hide hg
  have Hhr := hide hr
  clear hB r1 r2 hv hV hK hm htn hs hk1 hk2 hd hN hg hr
  go_enter Try.func41, Try.ntmps41
  go_upto_region 1 with fail
  try rw [s1]
  clear s1
  generalize ((w.alloc (.cells #[.slice ao n cs, .slice al x.loose.length cl, .int .i64 (x.made : Int), .slice ap x.plan.length cp, .bool x.dead] 30)).alloc (.cells #[.int .i64 (1 : Int), .string nm, .string tn, .int .i64 k, .string s] 53)) = W0 at *
  obtain ⟨c, d4, c0, c1, c2, c3, c4⟩ := CC.out _ (Below.refl _ _)
  rw [HDD.out] at d4
  clear c
  go_upto_region 5 with (first | (go_at_call 34; with_reducible (refine (HInm.out _).mono ?_); rintro e W2 ⟨rfl, hw2⟩; subst W2))
  have R0 := hide (CC.out _ (Below.refl _ _)).1
  go_upto_region 6 with (first | ((with_reducible refine at_list ?_); refine wpList_loadA ADd rfl _ rfl w.heap.size rfl _ rfl _ R0.out ?_) | (go_at_call 33; refine (rget_any K x _ nm _ H1.out HVd.out HK.out).mono ?_; rintro e W2 ⟨t, ht, rfl, b2⟩; have TS : Hid (t.size = (x.now.at (ls nm)).length) := (by show _ = _; rw [← ht, ls_len]); have B2 := hide b2; clear ht b2))
  clear d4 c0 c1 c2 c3 c4 R0
  obtain ⟨c, d4, c0, c1, c2, c3, c4⟩ := CC.out _ B2.out
  have R2 := hide c
  rw [HDD.out] at d4
  clear c
  have q7 := Hhg.out
  have q1 : ¬ k < 0 := by have := Hhr.out; omega
  have q2 : (t.size : Int) < k := by have := Hhr.out; rw [TS.out]; omega
  go_wp2
  go_ret
  exact ⟨rfl, below_next HB.out B2.out⟩
theorem rw_1ok (nm tn : ByteArray) (k : Int) (s : ByteArray) (hv : isD K w v x) (hV : Vd x) (hK : ∀ g, K g → g < w.heap.size) (hm : nm.size ≤ maxLen) (htn : tn.size ≤ maxLen) (hs : s.size ≤ maxLen) (hk1 : -9223372036854775808 ≤ k) (hk2 : k < 9223372036854775808) (hd : x.dead = false) (hN : isName nm.data.toList = true) (hg : (x.now.get (ls nm)).isSome = true) (hr : 0 ≤ k ∧ k ≤ ((x.now.at (ls nm)).length : Int)) : Calls Try.prog 41 #[v, .agg #[.int .i64 (1 : Int), .string nm, .string tn, .int .i64 k, .string s]] w fun e w' => e = .returned (.int .i64 0) ∧ Below w.heap.size w w' := by
  obtain ⟨ao, n, cs, al, cl, ap, cp, rfl⟩ := hv.form
  have s1 : (w.alloc (.cells #[.slice ao n cs, .slice al x.loose.length cl, .int .i64 (x.made : Int), .slice ap x.plan.length cp, .bool x.dead] 30)).heap.size = w.heap.size + 1 := by simp
  have hB : Below w.heap.size w ((w.alloc (.cells #[.slice ao n cs, .slice al x.loose.length cl, .int .i64 (x.made : Int), .slice ap x.plan.length cp, .bool x.dead] 30)).alloc (.cells #[.int .i64 (1 : Int), .string nm, .string tn, .int .i64 k, .string s] 53)) := ((Below.refl w.heap.size w).alloc (Nat.le_refl _) _).alloc (by rw [s1]; omega) _
  have r1 : ((w.alloc (.cells #[.slice ao n cs, .slice al x.loose.length cl, .int .i64 (x.made : Int), .slice ap x.plan.length cp, .bool x.dead] 30)).alloc (.cells #[.int .i64 (1 : Int), .string nm, .string tn, .int .i64 k, .string s] 53)).heap[w.heap.size]? = some (.cells #[.slice ao n cs, .slice al x.loose.length cl, .int .i64 (x.made : Int), .slice ap x.plan.length cp, .bool x.dead] 30 (0, 0)) := (Below.heap_alloc _ _ _ (by rw [s1]; omega)).trans (heap_alloc_last w _)
  have r2 : ((w.alloc (.cells #[.slice ao n cs, .slice al x.loose.length cl, .int .i64 (x.made : Int), .slice ap x.plan.length cp, .bool x.dead] 30)).alloc (.cells #[.int .i64 (1 : Int), .string nm, .string tn, .int .i64 k, .string s] 53)).heap[w.heap.size + 1]? = some (.cells #[.int .i64 (1 : Int), .string nm, .string tn, .int .i64 k, .string s] 53 (0, 0)) := by
    have := heap_alloc_last (w.alloc (.cells #[.slice ao n cs, .slice al x.loose.length cl, .int .i64 (x.made : Int), .slice ap x.plan.length cp, .bool x.dead] 30)) (.cells #[.int .i64 (1 : Int), .string nm, .string tn, .int .i64 k, .string s] 53)
    rw [s1] at this
    exact this
  have HB := hide hB
  have H1 := hide (hv.next hB)
  have HK : Hid (∀ g, K g → g < ((w.alloc (.cells #[.slice ao n cs, .slice al x.loose.length cl, .int .i64 (x.made : Int), .slice ap x.plan.length cp, .bool x.dead] 30)).alloc (.cells #[.int .i64 (1 : Int), .string nm, .string tn, .int .i64 k, .string s] 53)).heap.size) := fun g hg => Nat.lt_of_lt_of_le (hK g hg) hB.size
  have HVd := hide hV
  have CC : Hid (∀ W, Below ((w.alloc (.cells #[.slice ao n cs, .slice al x.loose.length cl, .int .i64 (x.made : Int), .slice ap x.plan.length cp, .bool x.dead] 30)).alloc (.cells #[.int .i64 (1 : Int), .string nm, .string tn, .int .i64 k, .string s] 53)).heap.size ((w.alloc (.cells #[.slice ao n cs, .slice al x.loose.length cl, .int .i64 (x.made : Int), .slice ap x.plan.length cp, .bool x.dead] 30)).alloc (.cells #[.int .i64 (1 : Int), .string nm, .string tn, .int .i64 k, .string s] 53)) W → W.heap[w.heap.size]? = some (.cells #[.slice ao n cs, .slice al x.loose.length cl, .int .i64 (x.made : Int), .slice ap x.plan.length cp, .bool x.dead] 30 (0, 0)) ∧ W.cell? ⟨w.heap.size, 4, none⟩ = some (.bool x.dead) ∧ W.cell? ⟨w.heap.size + 1, 0, none⟩ = some (.int .i64 (1 : Int)) ∧ W.cell? ⟨w.heap.size + 1, 1, none⟩ = some (.string nm) ∧ W.cell? ⟨w.heap.size + 1, 2, none⟩ = some (.string tn) ∧ W.cell? ⟨w.heap.size + 1, 3, none⟩ = some (.int .i64 k) ∧ W.cell? ⟨w.heap.size + 1, 4, none⟩ = some (.string s)) := fun W b => by
    have e1 := (b.block _ (lt_heap r1)).trans r1
    have e2 := (b.block _ (lt_heap r2)).trans r2
    refine ⟨e1, ?_, ?_, ?_, ?_, ?_, ?_⟩
    · rw [cell_of_row _ _ _ _ _ _ e1]; rfl
    · rw [cell_of_row _ _ _ _ _ _ e2]; rfl
    · rw [cell_of_row _ _ _ _ _ _ e2]; rfl
    · rw [cell_of_row _ _ _ _ _ _ e2]; rfl
    · rw [cell_of_row _ _ _ _ _ _ e2]; rfl
    · rw [cell_of_row _ _ _ _ _ _ e2]; rfl
  have HDD := hide hd
  have HInm : Hid (∀ W, Calls Try.prog 34 #[.string nm] W fun e w' => e = .returned (.bool true) ∧ w' = W) := fun W => by
    have := risName_any nm W hm
    rw [hN] at this
    exact this
  have HX := hide (And.intro hk1 (And.intro hk2 (And.intro hm (And.intro htn hs))))
  have HhN := hide hN
  have Hhg := hide hg
  have Hhr := hide hr
  clear hB r1 r2 hv hV hK hm htn hs hk1 hk2 hd hN hg hr
  go_enter Try.func41, Try.ntmps41
  go_upto_region 1 with fail
  try rw [s1]
  clear s1
  generalize ((w.alloc (.cells #[.slice ao n cs, .slice al x.loose.length cl, .int .i64 (x.made : Int), .slice ap x.plan.length cp, .bool x.dead] 30)).alloc (.cells #[.int .i64 (1 : Int), .string nm, .string tn, .int .i64 k, .string s] 53)) = W0 at *
  obtain ⟨c, d4, c0, c1, c2, c3, c4⟩ := CC.out _ (Below.refl _ _)
  rw [HDD.out] at d4
  clear c
  go_upto_region 5 with (first | (go_at_call 34; with_reducible (refine (HInm.out _).mono ?_); rintro e W2 ⟨rfl, hw2⟩; subst W2))
  have R0 := hide (CC.out _ (Below.refl _ _)).1
  go_upto_region 6 with (first | ((with_reducible refine at_list ?_); refine wpList_loadA ADd rfl _ rfl w.heap.size rfl _ rfl _ R0.out ?_) | (go_at_call 33; refine (rget_any K x _ nm _ H1.out HVd.out HK.out).mono ?_; rintro e W2 ⟨t, ht, rfl, b2⟩; have TS : Hid (t.size = (x.now.at (ls nm)).length) := (by show _ = _; rw [← ht, ls_len]); have B2 := hide b2; clear ht b2))
  clear d4 c0 c1 c2 c3 c4 R0
  obtain ⟨c, d4, c0, c1, c2, c3, c4⟩ := CC.out _ B2.out
  have R2 := hide c
  rw [HDD.out] at d4
  clear c
  have q7 := Hhg.out
  have q1 : ¬ k < 0 := by have := Hhr.out; omega
  have q2 : ¬ (t.size : Int) < k := by have := Hhr.out; rw [TS.out]; omega
  go_wp2
  go_ret
  exact ⟨rfl, below_next HB.out B2.out⟩
theorem rw_2no (nm tn : ByteArray) (k : Int) (s : ByteArray) (hv : isD K w v x) (hV : Vd x) (hK : ∀ g, K g → g < w.heap.size) (hm : nm.size ≤ maxLen) (htn : tn.size ≤ maxLen) (hs : s.size ≤ maxLen) (hk1 : -9223372036854775808 ≤ k) (hk2 : k < 9223372036854775808) (hd : x.dead = false) (hN : isName nm.data.toList = true) (hT : isName tn.data.toList = true) (hg : (x.now.get (ls nm)).isSome = false) : Calls Try.prog 41 #[v, .agg #[.int .i64 (2 : Int), .string nm, .string tn, .int .i64 k, .string s]] w fun e w' => e = .returned (.int .i64 2) ∧ Below w.heap.size w w' := by
  obtain ⟨ao, n, cs, al, cl, ap, cp, rfl⟩ := hv.form
  have s1 : (w.alloc (.cells #[.slice ao n cs, .slice al x.loose.length cl, .int .i64 (x.made : Int), .slice ap x.plan.length cp, .bool x.dead] 30)).heap.size = w.heap.size + 1 := by simp
  have hB : Below w.heap.size w ((w.alloc (.cells #[.slice ao n cs, .slice al x.loose.length cl, .int .i64 (x.made : Int), .slice ap x.plan.length cp, .bool x.dead] 30)).alloc (.cells #[.int .i64 (2 : Int), .string nm, .string tn, .int .i64 k, .string s] 53)) := ((Below.refl w.heap.size w).alloc (Nat.le_refl _) _).alloc (by rw [s1]; omega) _
  have r1 : ((w.alloc (.cells #[.slice ao n cs, .slice al x.loose.length cl, .int .i64 (x.made : Int), .slice ap x.plan.length cp, .bool x.dead] 30)).alloc (.cells #[.int .i64 (2 : Int), .string nm, .string tn, .int .i64 k, .string s] 53)).heap[w.heap.size]? = some (.cells #[.slice ao n cs, .slice al x.loose.length cl, .int .i64 (x.made : Int), .slice ap x.plan.length cp, .bool x.dead] 30 (0, 0)) := (Below.heap_alloc _ _ _ (by rw [s1]; omega)).trans (heap_alloc_last w _)
  have r2 : ((w.alloc (.cells #[.slice ao n cs, .slice al x.loose.length cl, .int .i64 (x.made : Int), .slice ap x.plan.length cp, .bool x.dead] 30)).alloc (.cells #[.int .i64 (2 : Int), .string nm, .string tn, .int .i64 k, .string s] 53)).heap[w.heap.size + 1]? = some (.cells #[.int .i64 (2 : Int), .string nm, .string tn, .int .i64 k, .string s] 53 (0, 0)) := by
    have := heap_alloc_last (w.alloc (.cells #[.slice ao n cs, .slice al x.loose.length cl, .int .i64 (x.made : Int), .slice ap x.plan.length cp, .bool x.dead] 30)) (.cells #[.int .i64 (2 : Int), .string nm, .string tn, .int .i64 k, .string s] 53)
    rw [s1] at this
    exact this
  have HB := hide hB
  have H1 := hide (hv.next hB)
  have HK : Hid (∀ g, K g → g < ((w.alloc (.cells #[.slice ao n cs, .slice al x.loose.length cl, .int .i64 (x.made : Int), .slice ap x.plan.length cp, .bool x.dead] 30)).alloc (.cells #[.int .i64 (2 : Int), .string nm, .string tn, .int .i64 k, .string s] 53)).heap.size) := fun g hg => Nat.lt_of_lt_of_le (hK g hg) hB.size
  have HVd := hide hV
  have CC : Hid (∀ W, Below ((w.alloc (.cells #[.slice ao n cs, .slice al x.loose.length cl, .int .i64 (x.made : Int), .slice ap x.plan.length cp, .bool x.dead] 30)).alloc (.cells #[.int .i64 (2 : Int), .string nm, .string tn, .int .i64 k, .string s] 53)).heap.size ((w.alloc (.cells #[.slice ao n cs, .slice al x.loose.length cl, .int .i64 (x.made : Int), .slice ap x.plan.length cp, .bool x.dead] 30)).alloc (.cells #[.int .i64 (2 : Int), .string nm, .string tn, .int .i64 k, .string s] 53)) W → W.heap[w.heap.size]? = some (.cells #[.slice ao n cs, .slice al x.loose.length cl, .int .i64 (x.made : Int), .slice ap x.plan.length cp, .bool x.dead] 30 (0, 0)) ∧ W.cell? ⟨w.heap.size, 4, none⟩ = some (.bool x.dead) ∧ W.cell? ⟨w.heap.size + 1, 0, none⟩ = some (.int .i64 (2 : Int)) ∧ W.cell? ⟨w.heap.size + 1, 1, none⟩ = some (.string nm) ∧ W.cell? ⟨w.heap.size + 1, 2, none⟩ = some (.string tn) ∧ W.cell? ⟨w.heap.size + 1, 3, none⟩ = some (.int .i64 k) ∧ W.cell? ⟨w.heap.size + 1, 4, none⟩ = some (.string s)) := fun W b => by
    have e1 := (b.block _ (lt_heap r1)).trans r1
    have e2 := (b.block _ (lt_heap r2)).trans r2
    refine ⟨e1, ?_, ?_, ?_, ?_, ?_, ?_⟩
    · rw [cell_of_row _ _ _ _ _ _ e1]; rfl
    · rw [cell_of_row _ _ _ _ _ _ e2]; rfl
    · rw [cell_of_row _ _ _ _ _ _ e2]; rfl
    · rw [cell_of_row _ _ _ _ _ _ e2]; rfl
    · rw [cell_of_row _ _ _ _ _ _ e2]; rfl
    · rw [cell_of_row _ _ _ _ _ _ e2]; rfl
  have HDD := hide hd
  have HInm : Hid (∀ W, Calls Try.prog 34 #[.string nm] W fun e w' => e = .returned (.bool true) ∧ w' = W) := fun W => by
    have := risName_any nm W hm
    rw [hN] at this
    exact this
  have HItn : Hid (∀ W, Calls Try.prog 34 #[.string tn] W fun e w' => e = .returned (.bool true) ∧ w' = W) := fun W => by
    have := risName_any tn W htn
    rw [hT] at this
    exact this
  have HX := hide (And.intro hk1 (And.intro hk2 (And.intro hm (And.intro htn hs))))
  have HhN := hide hN
  have HhT := hide hT
  have Hhg := hide hg
  clear hB r1 r2 hv hV hK hm htn hs hk1 hk2 hd hN hT hg
  go_enter Try.func41, Try.ntmps41
  go_upto_region 1 with fail
  try rw [s1]
  clear s1
  generalize ((w.alloc (.cells #[.slice ao n cs, .slice al x.loose.length cl, .int .i64 (x.made : Int), .slice ap x.plan.length cp, .bool x.dead] 30)).alloc (.cells #[.int .i64 (2 : Int), .string nm, .string tn, .int .i64 k, .string s] 53)) = W0 at *
  obtain ⟨c, d4, c0, c1, c2, c3, c4⟩ := CC.out _ (Below.refl _ _)
  rw [HDD.out] at d4
  clear c
  go_upto_region 5 with (first | (go_at_call 34; with_reducible (refine (HInm.out _).mono ?_); rintro e W2 ⟨rfl, hw2⟩; subst W2) | (go_at_call 34; with_reducible (refine (HItn.out _).mono ?_); rintro e W2 ⟨rfl, hw2⟩; subst W2))
  have R0 := hide (CC.out _ (Below.refl _ _)).1
  go_upto_region 6 with (first | ((with_reducible refine at_list ?_); refine wpList_loadA ADd rfl _ rfl w.heap.size rfl _ rfl _ R0.out ?_) | (go_at_call 33; refine (rget_any K x _ nm _ H1.out HVd.out HK.out).mono ?_; rintro e W2 ⟨t, ht, rfl, b2⟩; have TS : Hid (t.size = (x.now.at (ls nm)).length) := (by show _ = _; rw [← ht, ls_len]); have B2 := hide b2; clear ht b2))
  clear d4 c0 c1 c2 c3 c4 R0
  obtain ⟨c, d4, c0, c1, c2, c3, c4⟩ := CC.out _ B2.out
  have R2 := hide c
  rw [HDD.out] at d4
  clear c
  have q7 := Hhg.out
  go_wp2
  go_ret
  exact ⟨rfl, below_next HB.out B2.out⟩
theorem rw_2ok (nm tn : ByteArray) (k : Int) (s : ByteArray) (hv : isD K w v x) (hV : Vd x) (hK : ∀ g, K g → g < w.heap.size) (hm : nm.size ≤ maxLen) (htn : tn.size ≤ maxLen) (hs : s.size ≤ maxLen) (hk1 : -9223372036854775808 ≤ k) (hk2 : k < 9223372036854775808) (hd : x.dead = false) (hN : isName nm.data.toList = true) (hT : isName tn.data.toList = true) (hg : (x.now.get (ls nm)).isSome = true) : Calls Try.prog 41 #[v, .agg #[.int .i64 (2 : Int), .string nm, .string tn, .int .i64 k, .string s]] w fun e w' => e = .returned (.int .i64 0) ∧ Below w.heap.size w w' := by
  obtain ⟨ao, n, cs, al, cl, ap, cp, rfl⟩ := hv.form
  have s1 : (w.alloc (.cells #[.slice ao n cs, .slice al x.loose.length cl, .int .i64 (x.made : Int), .slice ap x.plan.length cp, .bool x.dead] 30)).heap.size = w.heap.size + 1 := by simp
  have hB : Below w.heap.size w ((w.alloc (.cells #[.slice ao n cs, .slice al x.loose.length cl, .int .i64 (x.made : Int), .slice ap x.plan.length cp, .bool x.dead] 30)).alloc (.cells #[.int .i64 (2 : Int), .string nm, .string tn, .int .i64 k, .string s] 53)) := ((Below.refl w.heap.size w).alloc (Nat.le_refl _) _).alloc (by rw [s1]; omega) _
  have r1 : ((w.alloc (.cells #[.slice ao n cs, .slice al x.loose.length cl, .int .i64 (x.made : Int), .slice ap x.plan.length cp, .bool x.dead] 30)).alloc (.cells #[.int .i64 (2 : Int), .string nm, .string tn, .int .i64 k, .string s] 53)).heap[w.heap.size]? = some (.cells #[.slice ao n cs, .slice al x.loose.length cl, .int .i64 (x.made : Int), .slice ap x.plan.length cp, .bool x.dead] 30 (0, 0)) := (Below.heap_alloc _ _ _ (by rw [s1]; omega)).trans (heap_alloc_last w _)
  have r2 : ((w.alloc (.cells #[.slice ao n cs, .slice al x.loose.length cl, .int .i64 (x.made : Int), .slice ap x.plan.length cp, .bool x.dead] 30)).alloc (.cells #[.int .i64 (2 : Int), .string nm, .string tn, .int .i64 k, .string s] 53)).heap[w.heap.size + 1]? = some (.cells #[.int .i64 (2 : Int), .string nm, .string tn, .int .i64 k, .string s] 53 (0, 0)) := by
    have := heap_alloc_last (w.alloc (.cells #[.slice ao n cs, .slice al x.loose.length cl, .int .i64 (x.made : Int), .slice ap x.plan.length cp, .bool x.dead] 30)) (.cells #[.int .i64 (2 : Int), .string nm, .string tn, .int .i64 k, .string s] 53)
    rw [s1] at this
    exact this
  have HB := hide hB
  have H1 := hide (hv.next hB)
  have HK : Hid (∀ g, K g → g < ((w.alloc (.cells #[.slice ao n cs, .slice al x.loose.length cl, .int .i64 (x.made : Int), .slice ap x.plan.length cp, .bool x.dead] 30)).alloc (.cells #[.int .i64 (2 : Int), .string nm, .string tn, .int .i64 k, .string s] 53)).heap.size) := fun g hg => Nat.lt_of_lt_of_le (hK g hg) hB.size
  have HVd := hide hV
  have CC : Hid (∀ W, Below ((w.alloc (.cells #[.slice ao n cs, .slice al x.loose.length cl, .int .i64 (x.made : Int), .slice ap x.plan.length cp, .bool x.dead] 30)).alloc (.cells #[.int .i64 (2 : Int), .string nm, .string tn, .int .i64 k, .string s] 53)).heap.size ((w.alloc (.cells #[.slice ao n cs, .slice al x.loose.length cl, .int .i64 (x.made : Int), .slice ap x.plan.length cp, .bool x.dead] 30)).alloc (.cells #[.int .i64 (2 : Int), .string nm, .string tn, .int .i64 k, .string s] 53)) W → W.heap[w.heap.size]? = some (.cells #[.slice ao n cs, .slice al x.loose.length cl, .int .i64 (x.made : Int), .slice ap x.plan.length cp, .bool x.dead] 30 (0, 0)) ∧ W.cell? ⟨w.heap.size, 4, none⟩ = some (.bool x.dead) ∧ W.cell? ⟨w.heap.size + 1, 0, none⟩ = some (.int .i64 (2 : Int)) ∧ W.cell? ⟨w.heap.size + 1, 1, none⟩ = some (.string nm) ∧ W.cell? ⟨w.heap.size + 1, 2, none⟩ = some (.string tn) ∧ W.cell? ⟨w.heap.size + 1, 3, none⟩ = some (.int .i64 k) ∧ W.cell? ⟨w.heap.size + 1, 4, none⟩ = some (.string s)) := fun W b => by
    have e1 := (b.block _ (lt_heap r1)).trans r1
    have e2 := (b.block _ (lt_heap r2)).trans r2
    refine ⟨e1, ?_, ?_, ?_, ?_, ?_, ?_⟩
    · rw [cell_of_row _ _ _ _ _ _ e1]; rfl
    · rw [cell_of_row _ _ _ _ _ _ e2]; rfl
    · rw [cell_of_row _ _ _ _ _ _ e2]; rfl
    · rw [cell_of_row _ _ _ _ _ _ e2]; rfl
    · rw [cell_of_row _ _ _ _ _ _ e2]; rfl
    · rw [cell_of_row _ _ _ _ _ _ e2]; rfl
  have HDD := hide hd
  have HInm : Hid (∀ W, Calls Try.prog 34 #[.string nm] W fun e w' => e = .returned (.bool true) ∧ w' = W) := fun W => by
    have := risName_any nm W hm
    rw [hN] at this
    exact this
  have HItn : Hid (∀ W, Calls Try.prog 34 #[.string tn] W fun e w' => e = .returned (.bool true) ∧ w' = W) := fun W => by
    have := risName_any tn W htn
    rw [hT] at this
    exact this
  have HX := hide (And.intro hk1 (And.intro hk2 (And.intro hm (And.intro htn hs))))
  have HhN := hide hN
  have HhT := hide hT
  have Hhg := hide hg
  clear hB r1 r2 hv hV hK hm htn hs hk1 hk2 hd hN hT hg
  go_enter Try.func41, Try.ntmps41
  go_upto_region 1 with fail
  try rw [s1]
  clear s1
  generalize ((w.alloc (.cells #[.slice ao n cs, .slice al x.loose.length cl, .int .i64 (x.made : Int), .slice ap x.plan.length cp, .bool x.dead] 30)).alloc (.cells #[.int .i64 (2 : Int), .string nm, .string tn, .int .i64 k, .string s] 53)) = W0 at *
  obtain ⟨c, d4, c0, c1, c2, c3, c4⟩ := CC.out _ (Below.refl _ _)
  rw [HDD.out] at d4
  clear c
  go_upto_region 5 with (first | (go_at_call 34; with_reducible (refine (HInm.out _).mono ?_); rintro e W2 ⟨rfl, hw2⟩; subst W2) | (go_at_call 34; with_reducible (refine (HItn.out _).mono ?_); rintro e W2 ⟨rfl, hw2⟩; subst W2))
  have R0 := hide (CC.out _ (Below.refl _ _)).1
  go_upto_region 6 with (first | ((with_reducible refine at_list ?_); refine wpList_loadA ADd rfl _ rfl w.heap.size rfl _ rfl _ R0.out ?_) | (go_at_call 33; refine (rget_any K x _ nm _ H1.out HVd.out HK.out).mono ?_; rintro e W2 ⟨t, ht, rfl, b2⟩; have TS : Hid (t.size = (x.now.at (ls nm)).length) := (by show _ = _; rw [← ht, ls_len]); have B2 := hide b2; clear ht b2))
  clear d4 c0 c1 c2 c3 c4 R0
  obtain ⟨c, d4, c0, c1, c2, c3, c4⟩ := CC.out _ B2.out
  have R2 := hide c
  rw [HDD.out] at d4
  clear c
  have q7 := Hhg.out
  go_wp2
  go_ret
  exact ⟨rfl, below_next HB.out B2.out⟩
theorem rw_3no (nm tn : ByteArray) (k : Int) (s : ByteArray) (hv : isD K w v x) (hV : Vd x) (hK : ∀ g, K g → g < w.heap.size) (hm : nm.size ≤ maxLen) (htn : tn.size ≤ maxLen) (hs : s.size ≤ maxLen) (hk1 : -9223372036854775808 ≤ k) (hk2 : k < 9223372036854775808) (hd : x.dead = false) (hN : isName nm.data.toList = true) (hg : (x.now.get (ls nm)).isSome = false) : Calls Try.prog 41 #[v, .agg #[.int .i64 (3 : Int), .string nm, .string tn, .int .i64 k, .string s]] w fun e w' => e = .returned (.int .i64 2) ∧ Below w.heap.size w w' := by
  obtain ⟨ao, n, cs, al, cl, ap, cp, rfl⟩ := hv.form
  have s1 : (w.alloc (.cells #[.slice ao n cs, .slice al x.loose.length cl, .int .i64 (x.made : Int), .slice ap x.plan.length cp, .bool x.dead] 30)).heap.size = w.heap.size + 1 := by simp
  have hB : Below w.heap.size w ((w.alloc (.cells #[.slice ao n cs, .slice al x.loose.length cl, .int .i64 (x.made : Int), .slice ap x.plan.length cp, .bool x.dead] 30)).alloc (.cells #[.int .i64 (3 : Int), .string nm, .string tn, .int .i64 k, .string s] 53)) := ((Below.refl w.heap.size w).alloc (Nat.le_refl _) _).alloc (by rw [s1]; omega) _
  have r1 : ((w.alloc (.cells #[.slice ao n cs, .slice al x.loose.length cl, .int .i64 (x.made : Int), .slice ap x.plan.length cp, .bool x.dead] 30)).alloc (.cells #[.int .i64 (3 : Int), .string nm, .string tn, .int .i64 k, .string s] 53)).heap[w.heap.size]? = some (.cells #[.slice ao n cs, .slice al x.loose.length cl, .int .i64 (x.made : Int), .slice ap x.plan.length cp, .bool x.dead] 30 (0, 0)) := (Below.heap_alloc _ _ _ (by rw [s1]; omega)).trans (heap_alloc_last w _)
  have r2 : ((w.alloc (.cells #[.slice ao n cs, .slice al x.loose.length cl, .int .i64 (x.made : Int), .slice ap x.plan.length cp, .bool x.dead] 30)).alloc (.cells #[.int .i64 (3 : Int), .string nm, .string tn, .int .i64 k, .string s] 53)).heap[w.heap.size + 1]? = some (.cells #[.int .i64 (3 : Int), .string nm, .string tn, .int .i64 k, .string s] 53 (0, 0)) := by
    have := heap_alloc_last (w.alloc (.cells #[.slice ao n cs, .slice al x.loose.length cl, .int .i64 (x.made : Int), .slice ap x.plan.length cp, .bool x.dead] 30)) (.cells #[.int .i64 (3 : Int), .string nm, .string tn, .int .i64 k, .string s] 53)
    rw [s1] at this
    exact this
  have HB := hide hB
  have H1 := hide (hv.next hB)
  have HK : Hid (∀ g, K g → g < ((w.alloc (.cells #[.slice ao n cs, .slice al x.loose.length cl, .int .i64 (x.made : Int), .slice ap x.plan.length cp, .bool x.dead] 30)).alloc (.cells #[.int .i64 (3 : Int), .string nm, .string tn, .int .i64 k, .string s] 53)).heap.size) := fun g hg => Nat.lt_of_lt_of_le (hK g hg) hB.size
  have HVd := hide hV
  have CC : Hid (∀ W, Below ((w.alloc (.cells #[.slice ao n cs, .slice al x.loose.length cl, .int .i64 (x.made : Int), .slice ap x.plan.length cp, .bool x.dead] 30)).alloc (.cells #[.int .i64 (3 : Int), .string nm, .string tn, .int .i64 k, .string s] 53)).heap.size ((w.alloc (.cells #[.slice ao n cs, .slice al x.loose.length cl, .int .i64 (x.made : Int), .slice ap x.plan.length cp, .bool x.dead] 30)).alloc (.cells #[.int .i64 (3 : Int), .string nm, .string tn, .int .i64 k, .string s] 53)) W → W.heap[w.heap.size]? = some (.cells #[.slice ao n cs, .slice al x.loose.length cl, .int .i64 (x.made : Int), .slice ap x.plan.length cp, .bool x.dead] 30 (0, 0)) ∧ W.cell? ⟨w.heap.size, 4, none⟩ = some (.bool x.dead) ∧ W.cell? ⟨w.heap.size + 1, 0, none⟩ = some (.int .i64 (3 : Int)) ∧ W.cell? ⟨w.heap.size + 1, 1, none⟩ = some (.string nm) ∧ W.cell? ⟨w.heap.size + 1, 2, none⟩ = some (.string tn) ∧ W.cell? ⟨w.heap.size + 1, 3, none⟩ = some (.int .i64 k) ∧ W.cell? ⟨w.heap.size + 1, 4, none⟩ = some (.string s)) := fun W b => by
    have e1 := (b.block _ (lt_heap r1)).trans r1
    have e2 := (b.block _ (lt_heap r2)).trans r2
    refine ⟨e1, ?_, ?_, ?_, ?_, ?_, ?_⟩
    · rw [cell_of_row _ _ _ _ _ _ e1]; rfl
    · rw [cell_of_row _ _ _ _ _ _ e2]; rfl
    · rw [cell_of_row _ _ _ _ _ _ e2]; rfl
    · rw [cell_of_row _ _ _ _ _ _ e2]; rfl
    · rw [cell_of_row _ _ _ _ _ _ e2]; rfl
    · rw [cell_of_row _ _ _ _ _ _ e2]; rfl
  have HDD := hide hd
  have HInm : Hid (∀ W, Calls Try.prog 34 #[.string nm] W fun e w' => e = .returned (.bool true) ∧ w' = W) := fun W => by
    have := risName_any nm W hm
    rw [hN] at this
    exact this
  have HX := hide (And.intro hk1 (And.intro hk2 (And.intro hm (And.intro htn hs))))
  have HhN := hide hN
  have Hhg := hide hg
  clear hB r1 r2 hv hV hK hm htn hs hk1 hk2 hd hN hg
  go_enter Try.func41, Try.ntmps41
  go_upto_region 1 with fail
  try rw [s1]
  clear s1
  generalize ((w.alloc (.cells #[.slice ao n cs, .slice al x.loose.length cl, .int .i64 (x.made : Int), .slice ap x.plan.length cp, .bool x.dead] 30)).alloc (.cells #[.int .i64 (3 : Int), .string nm, .string tn, .int .i64 k, .string s] 53)) = W0 at *
  obtain ⟨c, d4, c0, c1, c2, c3, c4⟩ := CC.out _ (Below.refl _ _)
  rw [HDD.out] at d4
  clear c
  go_upto_region 5 with (first | (go_at_call 34; with_reducible (refine (HInm.out _).mono ?_); rintro e W2 ⟨rfl, hw2⟩; subst W2))
  have R0 := hide (CC.out _ (Below.refl _ _)).1
  go_upto_region 6 with (first | ((with_reducible refine at_list ?_); refine wpList_loadA ADd rfl _ rfl w.heap.size rfl _ rfl _ R0.out ?_) | (go_at_call 33; refine (rget_any K x _ nm _ H1.out HVd.out HK.out).mono ?_; rintro e W2 ⟨t, ht, rfl, b2⟩; have TS : Hid (t.size = (x.now.at (ls nm)).length) := (by show _ = _; rw [← ht, ls_len]); have B2 := hide b2; clear ht b2))
  clear d4 c0 c1 c2 c3 c4 R0
  obtain ⟨c, d4, c0, c1, c2, c3, c4⟩ := CC.out _ B2.out
  have R2 := hide c
  rw [HDD.out] at d4
  clear c
  have q7 := Hhg.out
  go_wp2
  go_ret
  exact ⟨rfl, below_next HB.out B2.out⟩
theorem rw_3ok (nm tn : ByteArray) (k : Int) (s : ByteArray) (hv : isD K w v x) (hV : Vd x) (hK : ∀ g, K g → g < w.heap.size) (hm : nm.size ≤ maxLen) (htn : tn.size ≤ maxLen) (hs : s.size ≤ maxLen) (hk1 : -9223372036854775808 ≤ k) (hk2 : k < 9223372036854775808) (hd : x.dead = false) (hN : isName nm.data.toList = true) (hg : (x.now.get (ls nm)).isSome = true) : Calls Try.prog 41 #[v, .agg #[.int .i64 (3 : Int), .string nm, .string tn, .int .i64 k, .string s]] w fun e w' => e = .returned (.int .i64 0) ∧ Below w.heap.size w w' := by
  obtain ⟨ao, n, cs, al, cl, ap, cp, rfl⟩ := hv.form
  have s1 : (w.alloc (.cells #[.slice ao n cs, .slice al x.loose.length cl, .int .i64 (x.made : Int), .slice ap x.plan.length cp, .bool x.dead] 30)).heap.size = w.heap.size + 1 := by simp
  have hB : Below w.heap.size w ((w.alloc (.cells #[.slice ao n cs, .slice al x.loose.length cl, .int .i64 (x.made : Int), .slice ap x.plan.length cp, .bool x.dead] 30)).alloc (.cells #[.int .i64 (3 : Int), .string nm, .string tn, .int .i64 k, .string s] 53)) := ((Below.refl w.heap.size w).alloc (Nat.le_refl _) _).alloc (by rw [s1]; omega) _
  have r1 : ((w.alloc (.cells #[.slice ao n cs, .slice al x.loose.length cl, .int .i64 (x.made : Int), .slice ap x.plan.length cp, .bool x.dead] 30)).alloc (.cells #[.int .i64 (3 : Int), .string nm, .string tn, .int .i64 k, .string s] 53)).heap[w.heap.size]? = some (.cells #[.slice ao n cs, .slice al x.loose.length cl, .int .i64 (x.made : Int), .slice ap x.plan.length cp, .bool x.dead] 30 (0, 0)) := (Below.heap_alloc _ _ _ (by rw [s1]; omega)).trans (heap_alloc_last w _)
  have r2 : ((w.alloc (.cells #[.slice ao n cs, .slice al x.loose.length cl, .int .i64 (x.made : Int), .slice ap x.plan.length cp, .bool x.dead] 30)).alloc (.cells #[.int .i64 (3 : Int), .string nm, .string tn, .int .i64 k, .string s] 53)).heap[w.heap.size + 1]? = some (.cells #[.int .i64 (3 : Int), .string nm, .string tn, .int .i64 k, .string s] 53 (0, 0)) := by
    have := heap_alloc_last (w.alloc (.cells #[.slice ao n cs, .slice al x.loose.length cl, .int .i64 (x.made : Int), .slice ap x.plan.length cp, .bool x.dead] 30)) (.cells #[.int .i64 (3 : Int), .string nm, .string tn, .int .i64 k, .string s] 53)
    rw [s1] at this
    exact this
  have HB := hide hB
  have H1 := hide (hv.next hB)
  have HK : Hid (∀ g, K g → g < ((w.alloc (.cells #[.slice ao n cs, .slice al x.loose.length cl, .int .i64 (x.made : Int), .slice ap x.plan.length cp, .bool x.dead] 30)).alloc (.cells #[.int .i64 (3 : Int), .string nm, .string tn, .int .i64 k, .string s] 53)).heap.size) := fun g hg => Nat.lt_of_lt_of_le (hK g hg) hB.size
  have HVd := hide hV
  have CC : Hid (∀ W, Below ((w.alloc (.cells #[.slice ao n cs, .slice al x.loose.length cl, .int .i64 (x.made : Int), .slice ap x.plan.length cp, .bool x.dead] 30)).alloc (.cells #[.int .i64 (3 : Int), .string nm, .string tn, .int .i64 k, .string s] 53)).heap.size ((w.alloc (.cells #[.slice ao n cs, .slice al x.loose.length cl, .int .i64 (x.made : Int), .slice ap x.plan.length cp, .bool x.dead] 30)).alloc (.cells #[.int .i64 (3 : Int), .string nm, .string tn, .int .i64 k, .string s] 53)) W → W.heap[w.heap.size]? = some (.cells #[.slice ao n cs, .slice al x.loose.length cl, .int .i64 (x.made : Int), .slice ap x.plan.length cp, .bool x.dead] 30 (0, 0)) ∧ W.cell? ⟨w.heap.size, 4, none⟩ = some (.bool x.dead) ∧ W.cell? ⟨w.heap.size + 1, 0, none⟩ = some (.int .i64 (3 : Int)) ∧ W.cell? ⟨w.heap.size + 1, 1, none⟩ = some (.string nm) ∧ W.cell? ⟨w.heap.size + 1, 2, none⟩ = some (.string tn) ∧ W.cell? ⟨w.heap.size + 1, 3, none⟩ = some (.int .i64 k) ∧ W.cell? ⟨w.heap.size + 1, 4, none⟩ = some (.string s)) := fun W b => by
    have e1 := (b.block _ (lt_heap r1)).trans r1
    have e2 := (b.block _ (lt_heap r2)).trans r2
    refine ⟨e1, ?_, ?_, ?_, ?_, ?_, ?_⟩
    · rw [cell_of_row _ _ _ _ _ _ e1]; rfl
    · rw [cell_of_row _ _ _ _ _ _ e2]; rfl
    · rw [cell_of_row _ _ _ _ _ _ e2]; rfl
    · rw [cell_of_row _ _ _ _ _ _ e2]; rfl
    · rw [cell_of_row _ _ _ _ _ _ e2]; rfl
    · rw [cell_of_row _ _ _ _ _ _ e2]; rfl
  have HDD := hide hd
  have HInm : Hid (∀ W, Calls Try.prog 34 #[.string nm] W fun e w' => e = .returned (.bool true) ∧ w' = W) := fun W => by
    have := risName_any nm W hm
    rw [hN] at this
    exact this
  have HX := hide (And.intro hk1 (And.intro hk2 (And.intro hm (And.intro htn hs))))
  have HhN := hide hN
  have Hhg := hide hg
  clear hB r1 r2 hv hV hK hm htn hs hk1 hk2 hd hN hg
  go_enter Try.func41, Try.ntmps41
  go_upto_region 1 with fail
  try rw [s1]
  clear s1
  generalize ((w.alloc (.cells #[.slice ao n cs, .slice al x.loose.length cl, .int .i64 (x.made : Int), .slice ap x.plan.length cp, .bool x.dead] 30)).alloc (.cells #[.int .i64 (3 : Int), .string nm, .string tn, .int .i64 k, .string s] 53)) = W0 at *
  obtain ⟨c, d4, c0, c1, c2, c3, c4⟩ := CC.out _ (Below.refl _ _)
  rw [HDD.out] at d4
  clear c
  go_upto_region 5 with (first | (go_at_call 34; with_reducible (refine (HInm.out _).mono ?_); rintro e W2 ⟨rfl, hw2⟩; subst W2))
  have R0 := hide (CC.out _ (Below.refl _ _)).1
  go_upto_region 6 with (first | ((with_reducible refine at_list ?_); refine wpList_loadA ADd rfl _ rfl w.heap.size rfl _ rfl _ R0.out ?_) | (go_at_call 33; refine (rget_any K x _ nm _ H1.out HVd.out HK.out).mono ?_; rintro e W2 ⟨t, ht, rfl, b2⟩; have TS : Hid (t.size = (x.now.at (ls nm)).length) := (by show _ = _; rw [← ht, ls_len]); have B2 := hide b2; clear ht b2))
  clear d4 c0 c1 c2 c3 c4 R0
  obtain ⟨c, d4, c0, c1, c2, c3, c4⟩ := CC.out _ B2.out
  have R2 := hide c
  rw [HDD.out] at d4
  clear c
  have q7 := Hhg.out
  go_wp2
  go_ret
  exact ⟨rfl, below_next HB.out B2.out⟩
end
end Go.Proofs.Ythnfpdmhjennlaa
