/- The document's disk: Make. -/
import Derived.Test.YthnfpdmhjennlaaV29
namespace Go.Proofs.Ythnfpdmhjennlaa
open Go.RowKit
open Go.Deep
open Go.Lib
set_option linter.unusedVariables false
theorem dcs_form {K : Nat → Prop} {w : World} {v : Value} {x : St} (h : isD K w v x) : ∃ (ao : Option Addr) (n cs : Nat) (al : Option Addr) (cl : Nat) (ap : Option Addr) (cp : Nat) (S : List Fi), v = .agg #[.slice ao n cs, .slice al x.loose.length cl, .int .i64 (x.made : Int), .slice ap x.plan.length cp, .bool x.dead] ∧ RD K w (.slice ao n cs) (.slice al x.loose.length cl) (.slice ap x.plan.length cp) S x := by
  obtain ⟨vs, vl, vp, S, rfl, h⟩ := h
  obtain ⟨ao, cs, rfl⟩ := h.sure.form
  obtain ⟨al, cl, rfl⟩ := h.loose.form
  obtain ⟨ap, cp, rfl⟩ := h.plan.form
  exact ⟨_, _, _, _, _, _, _, S, rfl, h⟩
section
set_option maxRecDepth 10000
set_option maxHeartbeats 8000000
variable {K : Nat → Prop} {x : St} {v : Value} {w : World}
theorem rmake_err (kd : Nat) (nm tn : ByteArray) (k : Int) (s : ByteArray) (hv : isD K w v x) (hV : Vd x) (hK : ∀ g, K g → g < w.heap.size) (hkd : kd ≤ 3) (hm : nm.size ≤ maxLen) (htn : tn.size ≤ maxLen) (hs : s.size ≤ maxLen) (hk1 : -9223372036854775808 ≤ k) (hk2 : k < 9223372036854775808) (he : rwE x kd nm tn k s ≠ 0) : Calls Try.prog 14 #[v, .agg #[.int .i64 (kd : Int), .string nm, .string tn, .int .i64 k, .string s]] w fun e w' => ∃ v', e = .returned (.tuple #[v', .int .i64 (rwE x kd nm tn k s)]) ∧ isD K w' v' x ∧ Below w.heap.size w w' := by
  obtain ⟨ao, n, cs, al, cl, ap, cp, rfl⟩ := hv.form
  have s1 : (w.alloc (.cells #[.slice ao n cs, .slice al x.loose.length cl, .int .i64 (x.made : Int), .slice ap x.plan.length cp, .bool x.dead] 30)).heap.size = w.heap.size + 1 := by simp
  have s2 : ((w.alloc (.cells #[.slice ao n cs, .slice al x.loose.length cl, .int .i64 (x.made : Int), .slice ap x.plan.length cp, .bool x.dead] 30)).alloc (.cells #[.int .i64 (kd : Int), .string nm, .string tn, .int .i64 k, .string s] 53)).heap.size = w.heap.size + 2 := by simp
  have r1 : (((w.alloc (.cells #[.slice ao n cs, .slice al x.loose.length cl, .int .i64 (x.made : Int), .slice ap x.plan.length cp, .bool x.dead] 30)).alloc (.cells #[.int .i64 (kd : Int), .string nm, .string tn, .int .i64 k, .string s] 53)).alloc (.cells (dcs (.slice none 0 0) (.slice none 0 0) 0 (.slice none 0 0) false) 30)).heap[w.heap.size]? = some (.cells #[.slice ao n cs, .slice al x.loose.length cl, .int .i64 (x.made : Int), .slice ap x.plan.length cp, .bool x.dead] 30 (0, 0)) := (Below.heap_alloc _ _ _ (by rw [s2]; omega)).trans ((Below.heap_alloc _ _ _ (by rw [s1]; omega)).trans (heap_alloc_last w _))
  have r2 : (((w.alloc (.cells #[.slice ao n cs, .slice al x.loose.length cl, .int .i64 (x.made : Int), .slice ap x.plan.length cp, .bool x.dead] 30)).alloc (.cells #[.int .i64 (kd : Int), .string nm, .string tn, .int .i64 k, .string s] 53)).alloc (.cells (dcs (.slice none 0 0) (.slice none 0 0) 0 (.slice none 0 0) false) 30)).heap[w.heap.size + 1]? = some (.cells #[.int .i64 (kd : Int), .string nm, .string tn, .int .i64 k, .string s] 53 (0, 0)) := by
    have := heap_alloc_last (w.alloc (.cells #[.slice ao n cs, .slice al x.loose.length cl, .int .i64 (x.made : Int), .slice ap x.plan.length cp, .bool x.dead] 30)) (.cells #[.int .i64 (kd : Int), .string nm, .string tn, .int .i64 k, .string s] 53)
    rw [s1] at this
    exact (Below.heap_alloc _ _ _ (by rw [s2]; omega)).trans this
  have r3 : (((w.alloc (.cells #[.slice ao n cs, .slice al x.loose.length cl, .int .i64 (x.made : Int), .slice ap x.plan.length cp, .bool x.dead] 30)).alloc (.cells #[.int .i64 (kd : Int), .string nm, .string tn, .int .i64 k, .string s] 53)).alloc (.cells (dcs (.slice none 0 0) (.slice none 0 0) 0 (.slice none 0 0) false) 30)).heap[w.heap.size + 2]? = some (.cells (dcs (.slice none 0 0) (.slice none 0 0) 0 (.slice none 0 0) false) 30 (0, 0)) := by
    have := heap_alloc_last ((w.alloc (.cells #[.slice ao n cs, .slice al x.loose.length cl, .int .i64 (x.made : Int), .slice ap x.plan.length cp, .bool x.dead] 30)).alloc (.cells #[.int .i64 (kd : Int), .string nm, .string tn, .int .i64 k, .string s] 53)) (.cells (dcs (.slice none 0 0) (.slice none 0 0) 0 (.slice none 0 0) false) 30)
    rw [s2] at this
    exact this
  have hB : Below w.heap.size w (((w.alloc (.cells #[.slice ao n cs, .slice al x.loose.length cl, .int .i64 (x.made : Int), .slice ap x.plan.length cp, .bool x.dead] 30)).alloc (.cells #[.int .i64 (kd : Int), .string nm, .string tn, .int .i64 k, .string s] 53)).alloc (.cells (dcs (.slice none 0 0) (.slice none 0 0) 0 (.slice none 0 0) false) 30)) := (((Below.refl w.heap.size w).alloc (Nat.le_refl _) _).alloc (by rw [s1]; omega) _).alloc (by rw [s2]; omega) _
  have HB := hide hB
  have R1 := hide r1
  have R2 := hide r2
  have R3 := hide r3
  have H1 := hide (hv.up hB)
  have HK : Hid (∀ g, grow K w (((w.alloc (.cells #[.slice ao n cs, .slice al x.loose.length cl, .int .i64 (x.made : Int), .slice ap x.plan.length cp, .bool x.dead] 30)).alloc (.cells #[.int .i64 (kd : Int), .string nm, .string tn, .int .i64 k, .string s] 53)).alloc (.cells (dcs (.slice none 0 0) (.slice none 0 0) 0 (.slice none 0 0) false) 30)) g → g < (((w.alloc (.cells #[.slice ao n cs, .slice al x.loose.length cl, .int .i64 (x.made : Int), .slice ap x.plan.length cp, .bool x.dead] 30)).alloc (.cells #[.int .i64 (kd : Int), .string nm, .string tn, .int .i64 k, .string s] 53)).alloc (.cells (dcs (.slice none 0 0) (.slice none 0 0) 0 (.slice none 0 0) false) 30)).heap.size) := grow_lt hK hB.size
  have HKn : Hid (∀ g, K g → grow K w (((w.alloc (.cells #[.slice ao n cs, .slice al x.loose.length cl, .int .i64 (x.made : Int), .slice ap x.plan.length cp, .bool x.dead] 30)).alloc (.cells #[.int .i64 (kd : Int), .string nm, .string tn, .int .i64 k, .string s] 53)).alloc (.cells (dcs (.slice none 0 0) (.slice none 0 0) 0 (.slice none 0 0) false) 30)) g) := fun g hg => .inl hg
  have HKo : Hid (∀ g, w.heap.size ≤ g → g < w.heap.size + 3 → grow K w (((w.alloc (.cells #[.slice ao n cs, .slice al x.loose.length cl, .int .i64 (x.made : Int), .slice ap x.plan.length cp, .bool x.dead] 30)).alloc (.cells #[.int .i64 (kd : Int), .string nm, .string tn, .int .i64 k, .string s] 53)).alloc (.cells (dcs (.slice none 0 0) (.slice none 0 0) 0 (.slice none 0 0) false) 30)) g) := fun g h1 h2 => .inr ⟨h1, by simp; omega⟩
  have HVd := hide hV
  have HX := hide (And.intro hkd (And.intro hm (And.intro htn (And.intro hs (And.intro hk1 hk2)))))
  have HE := hide he
  clear hB r1 r2 r3 hv hV hK hkd hm htn hs hk1 hk2 he
  generalize grow K w (((w.alloc (.cells #[.slice ao n cs, .slice al x.loose.length cl, .int .i64 (x.made : Int), .slice ap x.plan.length cp, .bool x.dead] 30)).alloc (.cells #[.int .i64 (kd : Int), .string nm, .string tn, .int .i64 k, .string s] 53)).alloc (.cells (dcs (.slice none 0 0) (.slice none 0 0) 0 (.slice none 0 0) false) 30)) = K2 at *
  go_enter Try.func14, Try.ntmps14
  go_upto_region 1 with ((with_reducible refine at_list ?_); first | refine wpList_boxA rfl _ rfl _ rfl ?_ | refine wpList_allocA ADd rfl rfl ?_)
  try rw [s2]
  try rw [s1]
  clear s1 s2
  generalize (((w.alloc (.cells #[.slice ao n cs, .slice al x.loose.length cl, .int .i64 (x.made : Int), .slice ap x.plan.length cp, .bool x.dead] 30)).alloc (.cells #[.int .i64 (kd : Int), .string nm, .string tn, .int .i64 k, .string s] 53)).alloc (.cells (dcs (.slice none 0 0) (.slice none 0 0) 0 (.slice none 0 0) false) 30)) = W1 at *
  generalize hgb : w.heap.size = b0 at *
  go_upto_region 2 with (first | ((with_reducible refine at_list ?_); first | refine wpList_loadA ADd rfl _ rfl b0 rfl _ rfl _ R1.out ?_ | refine wpList_loadA ARCh rfl _ rfl (b0 + 1) rfl _ rfl _ R2.out ?_) | (go_at_call 41; refine (rwrong_any kd nm tn k s H1.out HVd.out HK.out HX.out.1 HX.out.2.1 HX.out.2.2.1 HX.out.2.2.2.1 HX.out.2.2.2.2.1 HX.out.2.2.2.2.2).mono ?_; rintro e W2 ⟨rfl, b2⟩; have B2 := hide b2; have RA := hide ((b2.block _ (lt_heap R1.out)).trans R1.out); have RC := hide ((b2.block _ (lt_heap R2.out)).trans R2.out); have RB := hide ((b2.block _ (lt_heap R3.out)).trans R3.out); clear b2))
  have q1 := HE.out
  generalize hE0 : rwE x kd nm tn k s = e0 at *
  have E0 := hide hE0
  clear hE0
  have q2 : (e0 == (0 : Int)) = false := by simpa using q1
  have q3 : decide (e0 = 0) = false := decide_eq_false q1
  clear HE
  go_wp2_with ((with_reducible refine at_list ?_); first | refine wpList_loadA ADd rfl _ rfl b0 rfl _ rfl _ RA.out ?_ | refine wpList_storeA ADd rfl _ _ rfl (b0 + 2) _ (by rfl) (by simp [Value.oneCell']) rfl rfl _ (by rfl) _ RB.out ?_)
  refine bodyPost_ret (resA2 ADd Try.results14 _ _ (b0 + 2) 30 _ rfl (by rfl) (setRow_heap _ _ _ _ _ _ RB.out) _ (by rfl)) rfl ⟨_, by rw [E0.out]; rfl, ((H1.out.next B2.out).write (Fr.setRow (S := K2) W2 (HKo.out (b0 + 2) (by omega) (by omega)) _)).mono HKn.out, ?_⟩
  have h5 : Below w.heap.size w W2 := by
    have h1 := HB.out
    rw [← hgb] at h1
    exact below_next h1 B2.out
  first | exact below_setRow h5 (by omega) _ | (rw [hgb] at h5; exact below_setRow h5 (by omega) _) | (rw [← hgb] at h5; exact below_setRow h5 (by omega) _)
theorem rmake_hit (kd : Nat) (nm tn : ByteArray) (k : Int) (s : ByteArray) (hv : isD K w v x) (hV : Vd x) (hK : ∀ g, K g → g < w.heap.size) (hkd : kd ≤ 3) (hm : nm.size ≤ maxLen) (htn : tn.size ≤ maxLen) (hs : s.size ≤ maxLen) (hk1 : -9223372036854775808 ≤ k) (hk2 : k < 9223372036854775808) (he : rwE x kd nm tn k s = 0) (hP : okP x.plan) (hz : x.plan.length * 32 ≤ 140737488355328) (hd : x.dead = false) (y : St) (hs2 : stS x false = some y) : Calls Try.prog 14 #[v, .agg #[.int .i64 (kd : Int), .string nm, .string tn, .int .i64 k, .string s]] w fun e w' => ∃ v', e = .returned (.tuple #[v', .int .i64 7]) ∧ isD K w' v' y ∧ Below w.heap.size w w' := by
  obtain ⟨ao, n, cs, al, cl, ap, cp, rfl⟩ := hv.form
  have s1 : (w.alloc (.cells #[.slice ao n cs, .slice al x.loose.length cl, .int .i64 (x.made : Int), .slice ap x.plan.length cp, .bool x.dead] 30)).heap.size = w.heap.size + 1 := by simp
  have s2 : ((w.alloc (.cells #[.slice ao n cs, .slice al x.loose.length cl, .int .i64 (x.made : Int), .slice ap x.plan.length cp, .bool x.dead] 30)).alloc (.cells #[.int .i64 (kd : Int), .string nm, .string tn, .int .i64 k, .string s] 53)).heap.size = w.heap.size + 2 := by simp
  have r1 : (((w.alloc (.cells #[.slice ao n cs, .slice al x.loose.length cl, .int .i64 (x.made : Int), .slice ap x.plan.length cp, .bool x.dead] 30)).alloc (.cells #[.int .i64 (kd : Int), .string nm, .string tn, .int .i64 k, .string s] 53)).alloc (.cells (dcs (.slice none 0 0) (.slice none 0 0) 0 (.slice none 0 0) false) 30)).heap[w.heap.size]? = some (.cells #[.slice ao n cs, .slice al x.loose.length cl, .int .i64 (x.made : Int), .slice ap x.plan.length cp, .bool x.dead] 30 (0, 0)) := (Below.heap_alloc _ _ _ (by rw [s2]; omega)).trans ((Below.heap_alloc _ _ _ (by rw [s1]; omega)).trans (heap_alloc_last w _))
  have r2 : (((w.alloc (.cells #[.slice ao n cs, .slice al x.loose.length cl, .int .i64 (x.made : Int), .slice ap x.plan.length cp, .bool x.dead] 30)).alloc (.cells #[.int .i64 (kd : Int), .string nm, .string tn, .int .i64 k, .string s] 53)).alloc (.cells (dcs (.slice none 0 0) (.slice none 0 0) 0 (.slice none 0 0) false) 30)).heap[w.heap.size + 1]? = some (.cells #[.int .i64 (kd : Int), .string nm, .string tn, .int .i64 k, .string s] 53 (0, 0)) := by
    have := heap_alloc_last (w.alloc (.cells #[.slice ao n cs, .slice al x.loose.length cl, .int .i64 (x.made : Int), .slice ap x.plan.length cp, .bool x.dead] 30)) (.cells #[.int .i64 (kd : Int), .string nm, .string tn, .int .i64 k, .string s] 53)
    rw [s1] at this
    exact (Below.heap_alloc _ _ _ (by rw [s2]; omega)).trans this
  have r3 : (((w.alloc (.cells #[.slice ao n cs, .slice al x.loose.length cl, .int .i64 (x.made : Int), .slice ap x.plan.length cp, .bool x.dead] 30)).alloc (.cells #[.int .i64 (kd : Int), .string nm, .string tn, .int .i64 k, .string s] 53)).alloc (.cells (dcs (.slice none 0 0) (.slice none 0 0) 0 (.slice none 0 0) false) 30)).heap[w.heap.size + 2]? = some (.cells (dcs (.slice none 0 0) (.slice none 0 0) 0 (.slice none 0 0) false) 30 (0, 0)) := by
    have := heap_alloc_last ((w.alloc (.cells #[.slice ao n cs, .slice al x.loose.length cl, .int .i64 (x.made : Int), .slice ap x.plan.length cp, .bool x.dead] 30)).alloc (.cells #[.int .i64 (kd : Int), .string nm, .string tn, .int .i64 k, .string s] 53)) (.cells (dcs (.slice none 0 0) (.slice none 0 0) 0 (.slice none 0 0) false) 30)
    rw [s2] at this
    exact this
  have hB : Below w.heap.size w (((w.alloc (.cells #[.slice ao n cs, .slice al x.loose.length cl, .int .i64 (x.made : Int), .slice ap x.plan.length cp, .bool x.dead] 30)).alloc (.cells #[.int .i64 (kd : Int), .string nm, .string tn, .int .i64 k, .string s] 53)).alloc (.cells (dcs (.slice none 0 0) (.slice none 0 0) 0 (.slice none 0 0) false) 30)) := (((Below.refl w.heap.size w).alloc (Nat.le_refl _) _).alloc (by rw [s1]; omega) _).alloc (by rw [s2]; omega) _
  have HB := hide hB
  have R1 := hide r1
  have R2 := hide r2
  have R3 := hide r3
  have H1 := hide (hv.up hB)
  have HK : Hid (∀ g, grow K w (((w.alloc (.cells #[.slice ao n cs, .slice al x.loose.length cl, .int .i64 (x.made : Int), .slice ap x.plan.length cp, .bool x.dead] 30)).alloc (.cells #[.int .i64 (kd : Int), .string nm, .string tn, .int .i64 k, .string s] 53)).alloc (.cells (dcs (.slice none 0 0) (.slice none 0 0) 0 (.slice none 0 0) false) 30)) g → g < (((w.alloc (.cells #[.slice ao n cs, .slice al x.loose.length cl, .int .i64 (x.made : Int), .slice ap x.plan.length cp, .bool x.dead] 30)).alloc (.cells #[.int .i64 (kd : Int), .string nm, .string tn, .int .i64 k, .string s] 53)).alloc (.cells (dcs (.slice none 0 0) (.slice none 0 0) 0 (.slice none 0 0) false) 30)).heap.size) := grow_lt hK hB.size
  have HKn : Hid (∀ g, K g → grow K w (((w.alloc (.cells #[.slice ao n cs, .slice al x.loose.length cl, .int .i64 (x.made : Int), .slice ap x.plan.length cp, .bool x.dead] 30)).alloc (.cells #[.int .i64 (kd : Int), .string nm, .string tn, .int .i64 k, .string s] 53)).alloc (.cells (dcs (.slice none 0 0) (.slice none 0 0) 0 (.slice none 0 0) false) 30)) g) := fun g hg => .inl hg
  have HKo : Hid (∀ g, w.heap.size ≤ g → g < w.heap.size + 3 → grow K w (((w.alloc (.cells #[.slice ao n cs, .slice al x.loose.length cl, .int .i64 (x.made : Int), .slice ap x.plan.length cp, .bool x.dead] 30)).alloc (.cells #[.int .i64 (kd : Int), .string nm, .string tn, .int .i64 k, .string s] 53)).alloc (.cells (dcs (.slice none 0 0) (.slice none 0 0) 0 (.slice none 0 0) false) 30)) g) := fun g h1 h2 => .inr ⟨h1, by simp; omega⟩
  have HVd := hide hV
  have HX := hide (And.intro hkd (And.intro hm (And.intro htn (And.intro hs (And.intro hk1 hk2)))))
  have HE := hide he
  have HS := hide hs2
  have HPP := hide (And.intro hP (And.intro hz hd))
  clear hB r1 r2 r3 hv hV hK hkd hm htn hs hk1 hk2 he hs2 hP hz hd
  generalize grow K w (((w.alloc (.cells #[.slice ao n cs, .slice al x.loose.length cl, .int .i64 (x.made : Int), .slice ap x.plan.length cp, .bool x.dead] 30)).alloc (.cells #[.int .i64 (kd : Int), .string nm, .string tn, .int .i64 k, .string s] 53)).alloc (.cells (dcs (.slice none 0 0) (.slice none 0 0) 0 (.slice none 0 0) false) 30)) = K2 at *
  go_enter Try.func14, Try.ntmps14
  go_upto_region 1 with ((with_reducible refine at_list ?_); first | refine wpList_boxA rfl _ rfl _ rfl ?_ | refine wpList_allocA ADd rfl rfl ?_)
  try rw [s2]
  try rw [s1]
  clear s1 s2
  generalize (((w.alloc (.cells #[.slice ao n cs, .slice al x.loose.length cl, .int .i64 (x.made : Int), .slice ap x.plan.length cp, .bool x.dead] 30)).alloc (.cells #[.int .i64 (kd : Int), .string nm, .string tn, .int .i64 k, .string s] 53)).alloc (.cells (dcs (.slice none 0 0) (.slice none 0 0) 0 (.slice none 0 0) false) 30)) = W1 at *
  generalize hgb : w.heap.size = b0 at *
  go_upto_region 2 with (first | ((with_reducible refine at_list ?_); first | refine wpList_loadA ADd rfl _ rfl b0 rfl _ rfl _ R1.out ?_ | refine wpList_loadA ARCh rfl _ rfl (b0 + 1) rfl _ rfl _ R2.out ?_) | (go_at_call 41; refine (rwrong_any kd nm tn k s H1.out HVd.out HK.out HX.out.1 HX.out.2.1 HX.out.2.2.1 HX.out.2.2.2.1 HX.out.2.2.2.2.1 HX.out.2.2.2.2.2).mono ?_; rintro e W2 ⟨rfl, b2⟩; have B2 := hide b2; have RA := hide ((b2.block _ (lt_heap R1.out)).trans R1.out); have RC := hide ((b2.block _ (lt_heap R2.out)).trans R2.out); have RB := hide ((b2.block _ (lt_heap R3.out)).trans R3.out); clear b2))
  rw [HE.out]
  have D2 := hide (H1.out.next B2.out)
  have HK2 : Hid (∀ g, K2 g → g < W2.heap.size) := fun q hq => Nat.lt_of_lt_of_le (HK.out q hq) B2.out.size
  have SO : Hid ((stS x false).isSome = true) := by show _ = _; rw [HS.out]; rfl
  go_upto_region 5 with (first | ((with_reducible refine at_list ?_); first | refine wpList_loadA ADd rfl _ rfl b0 rfl _ rfl _ RA.out ?_ | refine wpList_storeA ADd rfl _ _ rfl b0 _ (by rfl) (by simp [Value.oneCell']) rfl rfl _ (by rfl) _ RA3.out ?_) | (go_at_call 42; refine (rstrikes_any K2 x _ false _ D2.out HVd.out HPP.out.1 HPP.out.2.1 HPP.out.2.2 HK2.out).mono ?_; rintro e W3 ⟨v3, rfl, d3, b3⟩; rw [HS.out] at d3 ⊢; obtain ⟨ao3, n3, cs3, al3, cl3, ap3, cp3, S3, e3, dd3⟩ := dcs_form d3; subst e3; have D3 := hide dd3; have B3 := hide b3; have RA3 := hide ((b3.block _ (lt_heap RA.out)).trans RA.out); have RC3 := hide ((b3.block _ (lt_heap RC.out)).trans RC.out); have RB3 := hide ((b3.block _ (lt_heap RB.out)).trans RB.out); clear d3 dd3 b3))
  try simp only [Act.put, List.setIfInBounds_toArray, List.set_cons_succ, List.set_cons_zero]
  have R4 : Hid ((W3.setRow b0 #[.slice ao3 n3 cs3, .slice al3 y.loose.length cl3, .int .i64 (y.made : Int), .slice ap3 y.plan.length cp3, .bool y.dead]).heap[b0]? = some (.cells #[.slice ao3 n3 cs3, .slice al3 y.loose.length cl3, .int .i64 (y.made : Int), .slice ap3 y.plan.length cp3, .bool y.dead] 30 (0, 0))) := setRow_heap _ _ _ _ _ _ RA3.out
  have RB4 : Hid ((W3.setRow b0 #[.slice ao3 n3 cs3, .slice al3 y.loose.length cl3, .int .i64 (y.made : Int), .slice ap3 y.plan.length cp3, .bool y.dead]).heap[b0 + 2]? = some (.cells (dcs (.slice none 0 0) (.slice none 0 0) 0 (.slice none 0 0) false) 30 (0, 0))) := (setRow_other _ _ _ _ (by omega)).trans RB3.out
  have F4 : Hid (Fr K2 W3 (W3.setRow b0 #[.slice ao3 n3 cs3, .slice al3 y.loose.length cl3, .int .i64 (y.made : Int), .slice ap3 y.plan.length cp3, .bool y.dead])) := Fr.setRow W3 (HKo.out b0 (Nat.le_refl _) (by omega)) _
  have BW : Hid (Below w.heap.size w (W3.setRow b0 #[.slice ao3 n3 cs3, .slice al3 y.loose.length cl3, .int .i64 (y.made : Int), .slice ap3 y.plan.length cp3, .bool y.dead])) := by
    have h1 := HB.out
    rw [← hgb] at h1
    exact below_setRow (below_next (below_next h1 B2.out) B3.out) (by omega) _
  generalize W3.setRow b0 #[.slice ao3 n3 cs3, .slice al3 y.loose.length cl3, .int .i64 (y.made : Int), .slice ap3 y.plan.length cp3, .bool y.dead] = W4 at *
  go_wp2_with ((with_reducible refine at_list ?_); first | refine wpList_loadA ADd rfl _ rfl b0 rfl _ rfl _ R4.out ?_ | refine wpList_storeA ADd rfl _ _ rfl (b0 + 2) _ (by rfl) (by simp [Value.oneCell']) rfl rfl _ (by rfl) _ RB4.out ?_)
  refine bodyPost_ret (resA2 ADd Try.results14 _ _ (b0 + 2) 30 _ rfl (by rfl) (setRow_heap _ _ _ _ _ _ RB4.out) _ (by rfl)) rfl ⟨_, rfl, ⟨_, _, _, S3, rfl, ((D3.out.write F4.out).write (Fr.setRow (S := K2) W4 (HKo.out (b0 + 2) (by omega) (by omega)) _)).mono HKn.out⟩, ?_⟩
  have h5 := BW.out
  first | exact below_setRow h5 (by omega) _ | (rw [hgb] at h5; exact below_setRow h5 (by omega) _) | (rw [← hgb] at h5; exact below_setRow h5 (by omega) _)
theorem rmake_ok (kd : Nat) (nm tn : ByteArray) (k : Nat) (s : ByteArray) (hv : isD K w v x) (hV : Vd x) (hK : ∀ g, K g → g < w.heap.size) (hkd : kd ≤ 3) (hm : nm.size ≤ maxLen) (htn : tn.size ≤ maxLen) (hs : s.size ≤ maxLen) (hk1 : -9223372036854775808 ≤ (k : Int)) (hk2 : (k : Int) < 9223372036854775808) (he : rwE x kd nm tn k s = 0) (hP : okP x.plan) (hz : x.plan.length * 32 ≤ 140737488355328) (hd : x.dead = false) (hmd : x.made < 1000000) (hs2 : stS x false = none) : Calls Try.prog 14 #[v, .agg #[.int .i64 (kd : Int), .string nm, .string tn, .int .i64 (k : Int), .string s]] w fun e w' => ∃ v', e = .returned (.tuple #[v', .int .i64 0]) ∧ isD K w' v' (mkC x (⟨kd, nm, tn, k, s⟩ : Ch)) ∧ Below w.heap.size w w' := by
  obtain ⟨ao, n, cs, al, cl, ap, cp, rfl⟩ := hv.form
  have s1 : (w.alloc (.cells #[.slice ao n cs, .slice al x.loose.length cl, .int .i64 (x.made : Int), .slice ap x.plan.length cp, .bool x.dead] 30)).heap.size = w.heap.size + 1 := by simp
  have s2 : ((w.alloc (.cells #[.slice ao n cs, .slice al x.loose.length cl, .int .i64 (x.made : Int), .slice ap x.plan.length cp, .bool x.dead] 30)).alloc (.cells #[.int .i64 (kd : Int), .string nm, .string tn, .int .i64 (k : Int), .string s] 53)).heap.size = w.heap.size + 2 := by simp
  have r1 : (((w.alloc (.cells #[.slice ao n cs, .slice al x.loose.length cl, .int .i64 (x.made : Int), .slice ap x.plan.length cp, .bool x.dead] 30)).alloc (.cells #[.int .i64 (kd : Int), .string nm, .string tn, .int .i64 (k : Int), .string s] 53)).alloc (.cells (dcs (.slice none 0 0) (.slice none 0 0) 0 (.slice none 0 0) false) 30)).heap[w.heap.size]? = some (.cells #[.slice ao n cs, .slice al x.loose.length cl, .int .i64 (x.made : Int), .slice ap x.plan.length cp, .bool x.dead] 30 (0, 0)) := (Below.heap_alloc _ _ _ (by rw [s2]; omega)).trans ((Below.heap_alloc _ _ _ (by rw [s1]; omega)).trans (heap_alloc_last w _))
  have r2 : (((w.alloc (.cells #[.slice ao n cs, .slice al x.loose.length cl, .int .i64 (x.made : Int), .slice ap x.plan.length cp, .bool x.dead] 30)).alloc (.cells #[.int .i64 (kd : Int), .string nm, .string tn, .int .i64 (k : Int), .string s] 53)).alloc (.cells (dcs (.slice none 0 0) (.slice none 0 0) 0 (.slice none 0 0) false) 30)).heap[w.heap.size + 1]? = some (.cells #[.int .i64 (kd : Int), .string nm, .string tn, .int .i64 (k : Int), .string s] 53 (0, 0)) := by
    have := heap_alloc_last (w.alloc (.cells #[.slice ao n cs, .slice al x.loose.length cl, .int .i64 (x.made : Int), .slice ap x.plan.length cp, .bool x.dead] 30)) (.cells #[.int .i64 (kd : Int), .string nm, .string tn, .int .i64 (k : Int), .string s] 53)
    rw [s1] at this
    exact (Below.heap_alloc _ _ _ (by rw [s2]; omega)).trans this
  have r3 : (((w.alloc (.cells #[.slice ao n cs, .slice al x.loose.length cl, .int .i64 (x.made : Int), .slice ap x.plan.length cp, .bool x.dead] 30)).alloc (.cells #[.int .i64 (kd : Int), .string nm, .string tn, .int .i64 (k : Int), .string s] 53)).alloc (.cells (dcs (.slice none 0 0) (.slice none 0 0) 0 (.slice none 0 0) false) 30)).heap[w.heap.size + 2]? = some (.cells (dcs (.slice none 0 0) (.slice none 0 0) 0 (.slice none 0 0) false) 30 (0, 0)) := by
    have := heap_alloc_last ((w.alloc (.cells #[.slice ao n cs, .slice al x.loose.length cl, .int .i64 (x.made : Int), .slice ap x.plan.length cp, .bool x.dead] 30)).alloc (.cells #[.int .i64 (kd : Int), .string nm, .string tn, .int .i64 (k : Int), .string s] 53)) (.cells (dcs (.slice none 0 0) (.slice none 0 0) 0 (.slice none 0 0) false) 30)
    rw [s2] at this
    exact this
  have hB : Below w.heap.size w (((w.alloc (.cells #[.slice ao n cs, .slice al x.loose.length cl, .int .i64 (x.made : Int), .slice ap x.plan.length cp, .bool x.dead] 30)).alloc (.cells #[.int .i64 (kd : Int), .string nm, .string tn, .int .i64 (k : Int), .string s] 53)).alloc (.cells (dcs (.slice none 0 0) (.slice none 0 0) 0 (.slice none 0 0) false) 30)) := (((Below.refl w.heap.size w).alloc (Nat.le_refl _) _).alloc (by rw [s1]; omega) _).alloc (by rw [s2]; omega) _
  have HB := hide hB
  have R1 := hide r1
  have R2 := hide r2
  have R3 := hide r3
  have H1 := hide (hv.up hB)
  have HK : Hid (∀ g, grow K w (((w.alloc (.cells #[.slice ao n cs, .slice al x.loose.length cl, .int .i64 (x.made : Int), .slice ap x.plan.length cp, .bool x.dead] 30)).alloc (.cells #[.int .i64 (kd : Int), .string nm, .string tn, .int .i64 (k : Int), .string s] 53)).alloc (.cells (dcs (.slice none 0 0) (.slice none 0 0) 0 (.slice none 0 0) false) 30)) g → g < (((w.alloc (.cells #[.slice ao n cs, .slice al x.loose.length cl, .int .i64 (x.made : Int), .slice ap x.plan.length cp, .bool x.dead] 30)).alloc (.cells #[.int .i64 (kd : Int), .string nm, .string tn, .int .i64 (k : Int), .string s] 53)).alloc (.cells (dcs (.slice none 0 0) (.slice none 0 0) 0 (.slice none 0 0) false) 30)).heap.size) := grow_lt hK hB.size
  have HKn : Hid (∀ g, K g → grow K w (((w.alloc (.cells #[.slice ao n cs, .slice al x.loose.length cl, .int .i64 (x.made : Int), .slice ap x.plan.length cp, .bool x.dead] 30)).alloc (.cells #[.int .i64 (kd : Int), .string nm, .string tn, .int .i64 (k : Int), .string s] 53)).alloc (.cells (dcs (.slice none 0 0) (.slice none 0 0) 0 (.slice none 0 0) false) 30)) g) := fun g hg => .inl hg
  have HKo : Hid (∀ g, w.heap.size ≤ g → g < w.heap.size + 3 → grow K w (((w.alloc (.cells #[.slice ao n cs, .slice al x.loose.length cl, .int .i64 (x.made : Int), .slice ap x.plan.length cp, .bool x.dead] 30)).alloc (.cells #[.int .i64 (kd : Int), .string nm, .string tn, .int .i64 (k : Int), .string s] 53)).alloc (.cells (dcs (.slice none 0 0) (.slice none 0 0) 0 (.slice none 0 0) false) 30)) g) := fun g h1 h2 => .inr ⟨h1, by simp; omega⟩
  have HVd := hide hV
  have HX := hide (And.intro hkd (And.intro hm (And.intro htn (And.intro hs (And.intro hk1 hk2)))))
  have HE := hide he
  have HS := hide hs2
  have HPP := hide (And.intro hP (And.intro hz hd))
  have HMD := hide hmd
  have HLn := hide hV.many
  clear hB r1 r2 r3 hv hV hK hkd hm htn hs hk1 hk2 he hs2 hP hz hd hmd
  generalize grow K w (((w.alloc (.cells #[.slice ao n cs, .slice al x.loose.length cl, .int .i64 (x.made : Int), .slice ap x.plan.length cp, .bool x.dead] 30)).alloc (.cells #[.int .i64 (kd : Int), .string nm, .string tn, .int .i64 (k : Int), .string s] 53)).alloc (.cells (dcs (.slice none 0 0) (.slice none 0 0) 0 (.slice none 0 0) false) 30)) = K2 at *
  go_enter Try.func14, Try.ntmps14
  go_upto_region 1 with ((with_reducible refine at_list ?_); first | refine wpList_boxA rfl _ rfl _ rfl ?_ | refine wpList_allocA ADd rfl rfl ?_)
  try rw [s2]
  try rw [s1]
  clear s1 s2
  generalize (((w.alloc (.cells #[.slice ao n cs, .slice al x.loose.length cl, .int .i64 (x.made : Int), .slice ap x.plan.length cp, .bool x.dead] 30)).alloc (.cells #[.int .i64 (kd : Int), .string nm, .string tn, .int .i64 (k : Int), .string s] 53)).alloc (.cells (dcs (.slice none 0 0) (.slice none 0 0) 0 (.slice none 0 0) false) 30)) = W1 at *
  generalize hgb : w.heap.size = b0 at *
  go_upto_region 2 with (first | ((with_reducible refine at_list ?_); first | refine wpList_loadA ADd rfl _ rfl b0 rfl _ rfl _ R1.out ?_ | refine wpList_loadA ARCh rfl _ rfl (b0 + 1) rfl _ rfl _ R2.out ?_) | (go_at_call 41; refine (rwrong_any kd nm tn (k : Int) s H1.out HVd.out HK.out HX.out.1 HX.out.2.1 HX.out.2.2.1 HX.out.2.2.2.1 HX.out.2.2.2.2.1 HX.out.2.2.2.2.2).mono ?_; rintro e W2 ⟨rfl, b2⟩; have B2 := hide b2; have RA := hide ((b2.block _ (lt_heap R1.out)).trans R1.out); have RC := hide ((b2.block _ (lt_heap R2.out)).trans R2.out); have RB := hide ((b2.block _ (lt_heap R3.out)).trans R3.out); clear b2))
  rw [HE.out]
  have D2 := hide (H1.out.next B2.out)
  have HK2 : Hid (∀ g, K2 g → g < W2.heap.size) := fun q hq => Nat.lt_of_lt_of_le (HK.out q hq) B2.out.size
  have SO : Hid ((stS x false).isSome = false) := by show _ = _; rw [HS.out]; rfl
  go_upto_region 5 with (first | ((with_reducible refine at_list ?_); first | refine wpList_loadA ADd rfl _ rfl b0 rfl _ rfl _ RA.out ?_ | refine wpList_storeA ADd rfl _ _ rfl b0 _ (by rfl) (by simp [Value.oneCell']) rfl rfl _ (by rfl) _ RA3.out ?_) | (go_at_call 42; refine (rstrikes_any K2 x _ false _ D2.out HVd.out HPP.out.1 HPP.out.2.1 HPP.out.2.2 HK2.out).mono ?_; rintro e W3 ⟨v3, rfl, d3, b3⟩; rw [HS.out] at d3 ⊢; obtain ⟨ao3, n3, cs3, al3, cl3, ap3, cp3, S3, e3, dd3⟩ := dcs_form d3; subst e3; have D3 := hide dd3; have B3 := hide b3; have RA3 := hide ((b3.block _ (lt_heap RA.out)).trans RA.out); have RC3 := hide ((b3.block _ (lt_heap RC.out)).trans RC.out); have RB3 := hide ((b3.block _ (lt_heap RB.out)).trans RB.out); clear d3 dd3 b3))
  try simp only [Act.put, List.setIfInBounds_toArray, List.set_cons_succ, List.set_cons_zero]
  have R4 : Hid ((W3.setRow b0 #[.slice ao3 n3 cs3, .slice al3 x.loose.length cl3, .int .i64 (x.made : Int), .slice ap3 x.plan.length cp3, .bool x.dead]).heap[b0]? = some (.cells #[.slice ao3 n3 cs3, .slice al3 x.loose.length cl3, .int .i64 (x.made : Int), .slice ap3 x.plan.length cp3, .bool x.dead] 30 (0, 0))) := setRow_heap _ _ _ _ _ _ RA3.out
  have RB4 : Hid ((W3.setRow b0 #[.slice ao3 n3 cs3, .slice al3 x.loose.length cl3, .int .i64 (x.made : Int), .slice ap3 x.plan.length cp3, .bool x.dead]).heap[b0 + 2]? = some (.cells (dcs (.slice none 0 0) (.slice none 0 0) 0 (.slice none 0 0) false) 30 (0, 0))) := (setRow_other _ _ _ _ (by omega)).trans RB3.out
  have RC4 : Hid ((W3.setRow b0 #[.slice ao3 n3 cs3, .slice al3 x.loose.length cl3, .int .i64 (x.made : Int), .slice ap3 x.plan.length cp3, .bool x.dead]).heap[b0 + 1]? = some (.cells #[.int .i64 (kd : Int), .string nm, .string tn, .int .i64 (k : Int), .string s] 53 (0, 0))) := (setRow_other _ _ _ _ (by omega)).trans RC3.out
  have F4 : Fr K2 W3 (W3.setRow b0 #[.slice ao3 n3 cs3, .slice al3 x.loose.length cl3, .int .i64 (x.made : Int), .slice ap3 x.plan.length cp3, .bool x.dead]) := Fr.setRow W3 (HKo.out b0 (Nat.le_refl _) (by omega)) _
  have D4 := hide (D3.out.write F4)
  have BW : Hid (Below w.heap.size w (W3.setRow b0 #[.slice ao3 n3 cs3, .slice al3 x.loose.length cl3, .int .i64 (x.made : Int), .slice ap3 x.plan.length cp3, .bool x.dead])) := by
    have h1 := HB.out
    rw [← hgb] at h1
    exact below_setRow (below_next (below_next h1 B2.out) B3.out) (by omega) _
  have HBz : Hid (b0 ≤ (W3.setRow b0 #[.slice ao3 n3 cs3, .slice al3 x.loose.length cl3, .int .i64 (x.made : Int), .slice ap3 x.plan.length cp3, .bool x.dead]).heap.size) := by
    have h1 := BW.out.size
    rw [hgb] at h1
    exact h1
  have HKz : Hid (∀ g, K2 g → g < (W3.setRow b0 #[.slice ao3 n3 cs3, .slice al3 x.loose.length cl3, .int .i64 (x.made : Int), .slice ap3 x.plan.length cp3, .bool x.dead]).heap.size) := fun q hq => Nat.lt_of_lt_of_le (Nat.lt_of_lt_of_le (HK2.out q hq) B3.out.size) F4.size
  clear F4 RA RB RC RA3 RB3 RC3 R1 R2 R3 D2 D3
  generalize (W3.setRow b0 #[.slice ao3 n3 cs3, .slice al3 x.loose.length cl3, .int .i64 (x.made : Int), .slice ap3 x.plan.length cp3, .bool x.dead]) = wz at *
  have LP := hide D4.out.loose.now
  have FRR : Hid (∀ W, Below wz.heap.size wz W → W.heap[b0]? = some (.cells #[.slice ao3 n3 cs3, .slice al3 x.loose.length cl3, .int .i64 (x.made : Int), .slice ap3 x.plan.length cp3, .bool x.dead] 30 (0, 0)) ∧ W.cell? ⟨b0, 1, none⟩ = some (.slice al3 x.loose.length cl3) ∧ W.heap[b0 + 2]? = some (.cells (dcs (.slice none 0 0) (.slice none 0 0) 0 (.slice none 0 0) false) 30 (0, 0)) ∧ W.heap[b0 + 1]? = some (.cells #[.int .i64 (kd : Int), .string nm, .string tn, .int .i64 (k : Int), .string s] 53 (0, 0))) := fun W b => by
    have e1 := (b.block _ (lt_heap R4.out)).trans R4.out
    exact ⟨e1, by rw [cell_of_row _ _ _ _ _ _ e1]; rfl, (b.block _ (lt_heap RB4.out)).trans RB4.out, (b.block _ (lt_heap RC4.out)).trans RC4.out⟩
  obtain ⟨PL, hPL⟩ : ∃ PL, PL = x.loose ++ [(⟨kd, nm, tn, k, s⟩ : Ch)] := ⟨_, rfl⟩
  have EP : Hid (x.loose ++ [(⟨kd, nm, tn, k, s⟩ : Ch)] = PL) := hPL.symm
  clear hPL
  have ZA : Hid ((([] : List Ch).length + x.loose.length) * KCr.b ≤ 140737488355328 ∧ ([] : List Ch).length + x.loose.length ≤ maxLen) := by have := HLn.out; exact ⟨show (0 + x.loose.length) * 64 ≤ _ by omega, show 0 + x.loose.length ≤ _ by unfold maxLen; omega⟩
  have ZB : Hid (((([] : List Ch) ++ x.loose).length + [(⟨kd, nm, tn, k, s⟩ : Ch)].length) * KCr.b ≤ 140737488355328 ∧ (([] : List Ch) ++ x.loose).length + [(⟨kd, nm, tn, k, s⟩ : Ch)].length ≤ maxLen) := by have := HLn.out; rw [List.nil_append, List.length_singleton]; exact ⟨show (x.loose.length + 1) * 64 ≤ _ by omega, by unfold maxLen; omega⟩
  go_upto_region 7 with fail
  go_cut [] from 22 to 29 (fun wx => ∃ v9, Hid (LXK KCr K2 wx v9 PL ∧ wx.heap[b0]? = some (.cells #[.slice ao3 n3 cs3, v9, .int .i64 (x.made : Int), .slice ap3 x.plan.length cp3, .bool x.dead] 30 (0, 0)) ∧ Fr K2 wz wx ∧ Below b0 wz wx ∧ wx.heap[b0 + 2]? = some (.cells (dcs (.slice none 0 0) (.slice none 0 0) 0 (.slice none 0 0) false) 30 (0, 0))))
  case first =>
    refine wp_region_held_drew (S := fun W => W.heap[b0 + 1]? = some (.cells #[.int .i64 (kd : Int), .string nm, .string tn, .int .i64 (k : Int), .string s] 53 (0, 0))) (by kernel_rfl) RC4.out (fun hH => ?_)
    refine wpAnyH_take (i := 1) (v := .pointer (some ⟨b0, 1, none⟩)) rfl (by kernel_rfl) (by kernel_rfl) (by kernel_rfl) (fun _ _ _ h => h) (.inl ⟨by rfl, fun W _ => by go_simp⟩) hH ?_
    change wpAnyH _ _ _ _ _ _ _ (Act.put _ (some 23) _) _
    simp only [Act.put, List.setIfInBounds_toArray, List.set_cons_zero, List.set_cons_succ]
    refine wpAnyH_take (i := 4) (v := .agg #[.int .i64 (kd : Int), .string nm, .string tn, .int .i64 (k : Int), .string s]) rfl (by kernel_rfl) (by kernel_rfl) (by kernel_rfl) (fun _ _ _ h => h) (yl_load (by rfl) _ (by rfl) _ _ (by rfl) (fun W hS => ld_row ARCh rfl hS)) hH ?_
    change wpAnyH _ _ _ _ _ _ _ (Act.put _ (some 26) _) _
    simp only [Act.put, List.setIfInBounds_toArray, List.set_cons_zero, List.set_cons_succ]
    have BD := hide (Below.refl wz.heap.size wz).drew
    generalize wz.drew = wd at *
    refine wpAnyH_ready (rs := [0, 2, 5]) (by kernel_rfl) (by simp) (AllReadyH.cons rfl (fun K1 hK1 => ?_) (AllReadyH.cons rfl (fun K1 hK1 => ?_) (AllReadyH.cons rfl (fun K1 hK1 => ?_) AllReadyH.nil)))
    · refine KCr.stepBs0 (by rfl) (by rfl) (bs0KCr _) ?_
      have J1 := hide (Lw.empty (E := KCr) (w0 := wz) BD.out)
      generalize wd.alloc (.cells #[] KCr.e) = w1_a at *
      obtain ⟨v1, hv1⟩ : ∃ v1, v1 = (Value.slice (some ⟨wd.heap.size, 0, none⟩) 0 0) := ⟨_, rfl⟩
      rw [← hv1] at J1 ⊢
      clear hv1
      refine hK1.out _ _ ((FRR.out _ J1.out.bel).2.2.2) (fun hH => ?_)
      clear hK1
      change wpAnyH _ _ _ _ _ _ _ (Act.put _ (some 22) _) _
      simp only [Act.put, List.setIfInBounds_toArray, List.set_cons_zero, List.set_cons_succ]
      refine wpAnyH_ready (rs := [2, 5]) (by kernel_rfl) (by simp) (AllReadyH.cons rfl (fun K1 hK1 => ?_) (AllReadyH.cons rfl (fun K1 hK1 => ?_) AllReadyH.nil))
      · have cL := (FRR.out _ J1.out.bel).2.1
        go_simp
        refine hK1.out _ _ ((FRR.out _ J1.out.bel).2.2.2) (fun hH => ?_)
        clear hK1 cL
        refine wpAnyH_ready (rs := [3, 5]) (by kernel_rfl) (by simp) (AllReadyH.cons rfl (fun K1 hK1 => ?_) (AllReadyH.cons rfl (fun K1 hK1 => ?_) AllReadyH.nil))
        · refine KCr.stepAppL (by rfl) _ _ (by rfl) v1 _ (by rfl) J1.out.ox (.slice al3 x.loose.length cl3) (x.loose) (by rfl) (LP.out.below J1.out.bel) ZA.out.1 ZA.out.2 ?_
          intro v3 w3_acd o3 n3
          have J3 := hide (J1.out.app o3 n3)
          clear o3 n3
          refine hK1.out _ _ ((FRR.out _ J3.out.bel).2.2.2) (fun hH => ?_)
          clear hK1
          change wpAnyH _ _ _ _ _ _ _ (Act.put _ (some 25) _) _
          simp only [Act.put, List.setIfInBounds_toArray, List.set_cons_zero, List.set_cons_succ]
          refine wpAnyH_ready (rs := [5]) (by kernel_rfl) (by simp) (AllReadyH.cons rfl (fun K1 hK1 => ?_) AllReadyH.nil)
          refine KCr.stepBs1 (by rfl) _ (by rfl) ((⟨kd, nm, tn, k, s⟩ : Ch)) (by rfl) ?_
          have J4 := hide (Lw2.first (x := (⟨kd, nm, tn, k, s⟩ : Ch)) J3.out)
          obtain ⟨u4, hu4⟩ : ∃ u4, u4 = (Value.slice (some ⟨w3_acd.heap.size, 0, none⟩) 1 1) := ⟨_, rfl⟩
          rw [← hu4] at J4 ⊢
          clear hu4
          generalize w3_acd.alloc (.cells (KCr.enc ((⟨kd, nm, tn, k, s⟩ : Ch))).toArray KCr.e) = w4_acdf at *
          refine hK1.out _ _ ((FRR.out _ J4.out.a.bel).2.2.2) (fun hH => ?_)
          clear hK1
          change wpAnyH _ _ _ _ _ _ _ (Act.put _ (some 27) _) _
          simp only [Act.put, List.setIfInBounds_toArray, List.set_cons_zero, List.set_cons_succ]
          refine wpAnyH_ready (rs := [6]) (by kernel_rfl) (by simp) (AllReadyH.cons rfl (fun K1 hK1 => ?_) AllReadyH.nil)
          refine KCr.stepAppL (by rfl) _ _ (by rfl) v3 _ (by rfl) J4.out.a.ox u4 [(⟨kd, nm, tn, k, s⟩ : Ch)] (by rfl) J4.out.b.ox.read ZB.out.1 ZB.out.2 ?_
          intro v5 w5_acdfg o5 n5
          have J5 := hide (J4.out.a.app o5 n5)
          clear o5 n5
          rw [List.nil_append] at J5
          refine hK1.out _ _ ((FRR.out _ J5.out.bel).2.2.2) (fun hH => ?_)
          clear hK1
          change wpAnyH _ _ _ _ _ _ _ (Act.put _ (some 28) _) _
          simp only [Act.put, List.setIfInBounds_toArray, List.set_cons_zero, List.set_cons_succ]
          refine wpAnyH_take (i := 7) (v := .pointer (some ⟨b0, 1, none⟩)) rfl (by kernel_rfl) (by kernel_rfl) (by kernel_rfl) (fun _ _ _ h => h) (.inl ⟨by rfl, fun W _ => by go_simp⟩) hH ?_
          change wpAnyH _ _ _ _ _ _ _ (Act.put _ (some 29) _) _
          simp only [Act.put, List.setIfInBounds_toArray, List.set_cons_zero, List.set_cons_succ]
          refine wpAnyH_ready (rs := [8]) (by kernel_rfl) (by simp) (AllReadyH.cons rfl (fun K1 hK1 => ?_) AllReadyH.nil)
          rw [EP.out] at J5
          obtain ⟨a9, c9, e9⟩ := J5.out.ox.form
          subst e9
          have cS := (FRR.out _ J5.out.bel).2.1
          have fS := frozen_of_row _ _ 1 _ _ (FRR.out _ J5.out.bel).1
          go_simp
          refine hK1.out _ _ ((Below.heap_setCell _ _ _ _ (show b0 + 1 ≠ b0 by omega)).trans (FRR.out _ J5.out.bel).2.2.2) (fun hH => ?_)
          clear hK1
          refine wpAnyH_done (by kernel_rfl) ?_ _
          go_wp2_with fail
          go_meet
          have FW := Fr.setCell (S := K2) w5_acdfg (p := ⟨b0, 1, none⟩) (HKo.out b0 (Nat.le_refl _) (by omega)) (.slice a9 PL.length c9)
          exact ⟨_, (J5.out.lxk HKz.out).write FW, heap_setCell_same w5_acdfg b0 1 _ _ _ (FRR.out _ J5.out.bel).1, (Fr.of_below J5.out.bel).trans' FW, (J5.out.bel.mono HBz.out).setCell (Nat.le_refl _) _, (Below.heap_setCell _ _ _ _ (show b0 + 2 ≠ b0 by omega)).trans (FRR.out _ J5.out.bel).2.2.1⟩
        · refine KCr.stepBs1 (by rfl) _ (by rfl) ((⟨kd, nm, tn, k, s⟩ : Ch)) (by rfl) ?_
          have J3 := hide (Lw2.first (x := (⟨kd, nm, tn, k, s⟩ : Ch)) J1.out)
          obtain ⟨u3, hu3⟩ : ∃ u3, u3 = (Value.slice (some ⟨w1_a.heap.size, 0, none⟩) 1 1) := ⟨_, rfl⟩
          rw [← hu3] at J3 ⊢
          clear hu3
          generalize w1_a.alloc (.cells (KCr.enc ((⟨kd, nm, tn, k, s⟩ : Ch))).toArray KCr.e) = w3_acf at *
          refine hK1.out _ _ ((FRR.out _ J3.out.a.bel).2.2.2) (fun hH => ?_)
          clear hK1
          change wpAnyH _ _ _ _ _ _ _ (Act.put _ (some 27) _) _
          simp only [Act.put, List.setIfInBounds_toArray, List.set_cons_zero, List.set_cons_succ]
          refine wpAnyH_ready (rs := [3]) (by kernel_rfl) (by simp) (AllReadyH.cons rfl (fun K1 hK1 => ?_) AllReadyH.nil)
          refine KCr.stepAppL (by rfl) _ _ (by rfl) v1 _ (by rfl) J3.out.a.ox (.slice al3 x.loose.length cl3) (x.loose) (by rfl) (LP.out.below J3.out.a.bel) ZA.out.1 ZA.out.2 ?_
          intro v4 w4_acfd o4 n4
          have J4 := hide (J3.out.app o4 n4)
          clear o4 n4
          refine hK1.out _ _ ((FRR.out _ J4.out.a.bel).2.2.2) (fun hH => ?_)
          clear hK1
          change wpAnyH _ _ _ _ _ _ _ (Act.put _ (some 25) _) _
          simp only [Act.put, List.setIfInBounds_toArray, List.set_cons_zero, List.set_cons_succ]
          refine wpAnyH_ready (rs := [6]) (by kernel_rfl) (by simp) (AllReadyH.cons rfl (fun K1 hK1 => ?_) AllReadyH.nil)
          refine KCr.stepAppL (by rfl) _ _ (by rfl) v4 _ (by rfl) J4.out.a.ox u3 [(⟨kd, nm, tn, k, s⟩ : Ch)] (by rfl) J4.out.b.ox.read ZB.out.1 ZB.out.2 ?_
          intro v5 w5_acdfg o5 n5
          have J5 := hide (J4.out.a.app o5 n5)
          clear o5 n5
          rw [List.nil_append] at J5
          refine hK1.out _ _ ((FRR.out _ J5.out.bel).2.2.2) (fun hH => ?_)
          clear hK1
          change wpAnyH _ _ _ _ _ _ _ (Act.put _ (some 28) _) _
          simp only [Act.put, List.setIfInBounds_toArray, List.set_cons_zero, List.set_cons_succ]
          refine wpAnyH_take (i := 7) (v := .pointer (some ⟨b0, 1, none⟩)) rfl (by kernel_rfl) (by kernel_rfl) (by kernel_rfl) (fun _ _ _ h => h) (.inl ⟨by rfl, fun W _ => by go_simp⟩) hH ?_
          change wpAnyH _ _ _ _ _ _ _ (Act.put _ (some 29) _) _
          simp only [Act.put, List.setIfInBounds_toArray, List.set_cons_zero, List.set_cons_succ]
          refine wpAnyH_ready (rs := [8]) (by kernel_rfl) (by simp) (AllReadyH.cons rfl (fun K1 hK1 => ?_) AllReadyH.nil)
          rw [EP.out] at J5
          obtain ⟨a9, c9, e9⟩ := J5.out.ox.form
          subst e9
          have cS := (FRR.out _ J5.out.bel).2.1
          have fS := frozen_of_row _ _ 1 _ _ (FRR.out _ J5.out.bel).1
          go_simp
          refine hK1.out _ _ ((Below.heap_setCell _ _ _ _ (show b0 + 1 ≠ b0 by omega)).trans (FRR.out _ J5.out.bel).2.2.2) (fun hH => ?_)
          clear hK1
          refine wpAnyH_done (by kernel_rfl) ?_ _
          go_wp2_with fail
          go_meet
          have FW := Fr.setCell (S := K2) w5_acdfg (p := ⟨b0, 1, none⟩) (HKo.out b0 (Nat.le_refl _) (by omega)) (.slice a9 PL.length c9)
          exact ⟨_, (J5.out.lxk HKz.out).write FW, heap_setCell_same w5_acdfg b0 1 _ _ _ (FRR.out _ J5.out.bel).1, (Fr.of_below J5.out.bel).trans' FW, (J5.out.bel.mono HBz.out).setCell (Nat.le_refl _) _, (Below.heap_setCell _ _ _ _ (show b0 + 2 ≠ b0 by omega)).trans (FRR.out _ J5.out.bel).2.2.1⟩
      · refine KCr.stepBs1 (by rfl) _ (by rfl) ((⟨kd, nm, tn, k, s⟩ : Ch)) (by rfl) ?_
        have J2 := hide (Lw2.first (x := (⟨kd, nm, tn, k, s⟩ : Ch)) J1.out)
        obtain ⟨u2, hu2⟩ : ∃ u2, u2 = (Value.slice (some ⟨w1_a.heap.size, 0, none⟩) 1 1) := ⟨_, rfl⟩
        rw [← hu2] at J2 ⊢
        clear hu2
        generalize w1_a.alloc (.cells (KCr.enc ((⟨kd, nm, tn, k, s⟩ : Ch))).toArray KCr.e) = w2_af at *
        refine hK1.out _ _ ((FRR.out _ J2.out.a.bel).2.2.2) (fun hH => ?_)
        clear hK1
        change wpAnyH _ _ _ _ _ _ _ (Act.put _ (some 27) _) _
        simp only [Act.put, List.setIfInBounds_toArray, List.set_cons_zero, List.set_cons_succ]
        refine wpAnyH_ready (rs := [2]) (by kernel_rfl) (by simp) (AllReadyH.cons rfl (fun K1 hK1 => ?_) AllReadyH.nil)
        have cL := (FRR.out _ J2.out.a.bel).2.1
        go_simp
        refine hK1.out _ _ ((FRR.out _ J2.out.a.bel).2.2.2) (fun hH => ?_)
        clear hK1 cL
        refine wpAnyH_ready (rs := [3]) (by kernel_rfl) (by simp) (AllReadyH.cons rfl (fun K1 hK1 => ?_) AllReadyH.nil)
        refine KCr.stepAppL (by rfl) _ _ (by rfl) v1 _ (by rfl) J2.out.a.ox (.slice al3 x.loose.length cl3) (x.loose) (by rfl) (LP.out.below J2.out.a.bel) ZA.out.1 ZA.out.2 ?_
        intro v4 w4_acfd o4 n4
        have J4 := hide (J2.out.app o4 n4)
        clear o4 n4
        refine hK1.out _ _ ((FRR.out _ J4.out.a.bel).2.2.2) (fun hH => ?_)
        clear hK1
        change wpAnyH _ _ _ _ _ _ _ (Act.put _ (some 25) _) _
        simp only [Act.put, List.setIfInBounds_toArray, List.set_cons_zero, List.set_cons_succ]
        refine wpAnyH_ready (rs := [6]) (by kernel_rfl) (by simp) (AllReadyH.cons rfl (fun K1 hK1 => ?_) AllReadyH.nil)
        refine KCr.stepAppL (by rfl) _ _ (by rfl) v4 _ (by rfl) J4.out.a.ox u2 [(⟨kd, nm, tn, k, s⟩ : Ch)] (by rfl) J4.out.b.ox.read ZB.out.1 ZB.out.2 ?_
        intro v5 w5_acdfg o5 n5
        have J5 := hide (J4.out.a.app o5 n5)
        clear o5 n5
        rw [List.nil_append] at J5
        refine hK1.out _ _ ((FRR.out _ J5.out.bel).2.2.2) (fun hH => ?_)
        clear hK1
        change wpAnyH _ _ _ _ _ _ _ (Act.put _ (some 28) _) _
        simp only [Act.put, List.setIfInBounds_toArray, List.set_cons_zero, List.set_cons_succ]
        refine wpAnyH_take (i := 7) (v := .pointer (some ⟨b0, 1, none⟩)) rfl (by kernel_rfl) (by kernel_rfl) (by kernel_rfl) (fun _ _ _ h => h) (.inl ⟨by rfl, fun W _ => by go_simp⟩) hH ?_
        change wpAnyH _ _ _ _ _ _ _ (Act.put _ (some 29) _) _
        simp only [Act.put, List.setIfInBounds_toArray, List.set_cons_zero, List.set_cons_succ]
        refine wpAnyH_ready (rs := [8]) (by kernel_rfl) (by simp) (AllReadyH.cons rfl (fun K1 hK1 => ?_) AllReadyH.nil)
        rw [EP.out] at J5
        obtain ⟨a9, c9, e9⟩ := J5.out.ox.form
        subst e9
        have cS := (FRR.out _ J5.out.bel).2.1
        have fS := frozen_of_row _ _ 1 _ _ (FRR.out _ J5.out.bel).1
        go_simp
        refine hK1.out _ _ ((Below.heap_setCell _ _ _ _ (show b0 + 1 ≠ b0 by omega)).trans (FRR.out _ J5.out.bel).2.2.2) (fun hH => ?_)
        clear hK1
        refine wpAnyH_done (by kernel_rfl) ?_ _
        go_wp2_with fail
        go_meet
        have FW := Fr.setCell (S := K2) w5_acdfg (p := ⟨b0, 1, none⟩) (HKo.out b0 (Nat.le_refl _) (by omega)) (.slice a9 PL.length c9)
        exact ⟨_, (J5.out.lxk HKz.out).write FW, heap_setCell_same w5_acdfg b0 1 _ _ _ (FRR.out _ J5.out.bel).1, (Fr.of_below J5.out.bel).trans' FW, (J5.out.bel.mono HBz.out).setCell (Nat.le_refl _) _, (Below.heap_setCell _ _ _ _ (show b0 + 2 ≠ b0 by omega)).trans (FRR.out _ J5.out.bel).2.2.1⟩
    · have cL := (FRR.out _ BD.out).2.1
      go_simp
      refine hK1.out _ _ ((FRR.out _ BD.out).2.2.2) (fun hH => ?_)
      clear hK1 cL
      refine wpAnyH_ready (rs := [0, 5]) (by kernel_rfl) (by simp) (AllReadyH.cons rfl (fun K1 hK1 => ?_) (AllReadyH.cons rfl (fun K1 hK1 => ?_) AllReadyH.nil))
      · refine KCr.stepBs0 (by rfl) (by rfl) (bs0KCr _) ?_
        have J2 := hide (Lw.empty (E := KCr) (w0 := wz) BD.out)
        generalize wd.alloc (.cells #[] KCr.e) = w2_ca at *
        obtain ⟨v2, hv2⟩ : ∃ v2, v2 = (Value.slice (some ⟨wd.heap.size, 0, none⟩) 0 0) := ⟨_, rfl⟩
        rw [← hv2] at J2 ⊢
        clear hv2
        refine hK1.out _ _ ((FRR.out _ J2.out.bel).2.2.2) (fun hH => ?_)
        clear hK1
        change wpAnyH _ _ _ _ _ _ _ (Act.put _ (some 22) _) _
        simp only [Act.put, List.setIfInBounds_toArray, List.set_cons_zero, List.set_cons_succ]
        refine wpAnyH_ready (rs := [3, 5]) (by kernel_rfl) (by simp) (AllReadyH.cons rfl (fun K1 hK1 => ?_) (AllReadyH.cons rfl (fun K1 hK1 => ?_) AllReadyH.nil))
        · refine KCr.stepAppL (by rfl) _ _ (by rfl) v2 _ (by rfl) J2.out.ox (.slice al3 x.loose.length cl3) (x.loose) (by rfl) (LP.out.below J2.out.bel) ZA.out.1 ZA.out.2 ?_
          intro v3 w3_acd o3 n3
          have J3 := hide (J2.out.app o3 n3)
          clear o3 n3
          refine hK1.out _ _ ((FRR.out _ J3.out.bel).2.2.2) (fun hH => ?_)
          clear hK1
          change wpAnyH _ _ _ _ _ _ _ (Act.put _ (some 25) _) _
          simp only [Act.put, List.setIfInBounds_toArray, List.set_cons_zero, List.set_cons_succ]
          refine wpAnyH_ready (rs := [5]) (by kernel_rfl) (by simp) (AllReadyH.cons rfl (fun K1 hK1 => ?_) AllReadyH.nil)
          refine KCr.stepBs1 (by rfl) _ (by rfl) ((⟨kd, nm, tn, k, s⟩ : Ch)) (by rfl) ?_
          have J4 := hide (Lw2.first (x := (⟨kd, nm, tn, k, s⟩ : Ch)) J3.out)
          obtain ⟨u4, hu4⟩ : ∃ u4, u4 = (Value.slice (some ⟨w3_acd.heap.size, 0, none⟩) 1 1) := ⟨_, rfl⟩
          rw [← hu4] at J4 ⊢
          clear hu4
          generalize w3_acd.alloc (.cells (KCr.enc ((⟨kd, nm, tn, k, s⟩ : Ch))).toArray KCr.e) = w4_acdf at *
          refine hK1.out _ _ ((FRR.out _ J4.out.a.bel).2.2.2) (fun hH => ?_)
          clear hK1
          change wpAnyH _ _ _ _ _ _ _ (Act.put _ (some 27) _) _
          simp only [Act.put, List.setIfInBounds_toArray, List.set_cons_zero, List.set_cons_succ]
          refine wpAnyH_ready (rs := [6]) (by kernel_rfl) (by simp) (AllReadyH.cons rfl (fun K1 hK1 => ?_) AllReadyH.nil)
          refine KCr.stepAppL (by rfl) _ _ (by rfl) v3 _ (by rfl) J4.out.a.ox u4 [(⟨kd, nm, tn, k, s⟩ : Ch)] (by rfl) J4.out.b.ox.read ZB.out.1 ZB.out.2 ?_
          intro v5 w5_acdfg o5 n5
          have J5 := hide (J4.out.a.app o5 n5)
          clear o5 n5
          rw [List.nil_append] at J5
          refine hK1.out _ _ ((FRR.out _ J5.out.bel).2.2.2) (fun hH => ?_)
          clear hK1
          change wpAnyH _ _ _ _ _ _ _ (Act.put _ (some 28) _) _
          simp only [Act.put, List.setIfInBounds_toArray, List.set_cons_zero, List.set_cons_succ]
          refine wpAnyH_take (i := 7) (v := .pointer (some ⟨b0, 1, none⟩)) rfl (by kernel_rfl) (by kernel_rfl) (by kernel_rfl) (fun _ _ _ h => h) (.inl ⟨by rfl, fun W _ => by go_simp⟩) hH ?_
          change wpAnyH _ _ _ _ _ _ _ (Act.put _ (some 29) _) _
          simp only [Act.put, List.setIfInBounds_toArray, List.set_cons_zero, List.set_cons_succ]
          refine wpAnyH_ready (rs := [8]) (by kernel_rfl) (by simp) (AllReadyH.cons rfl (fun K1 hK1 => ?_) AllReadyH.nil)
          rw [EP.out] at J5
          obtain ⟨a9, c9, e9⟩ := J5.out.ox.form
          subst e9
          have cS := (FRR.out _ J5.out.bel).2.1
          have fS := frozen_of_row _ _ 1 _ _ (FRR.out _ J5.out.bel).1
          go_simp
          refine hK1.out _ _ ((Below.heap_setCell _ _ _ _ (show b0 + 1 ≠ b0 by omega)).trans (FRR.out _ J5.out.bel).2.2.2) (fun hH => ?_)
          clear hK1
          refine wpAnyH_done (by kernel_rfl) ?_ _
          go_wp2_with fail
          go_meet
          have FW := Fr.setCell (S := K2) w5_acdfg (p := ⟨b0, 1, none⟩) (HKo.out b0 (Nat.le_refl _) (by omega)) (.slice a9 PL.length c9)
          exact ⟨_, (J5.out.lxk HKz.out).write FW, heap_setCell_same w5_acdfg b0 1 _ _ _ (FRR.out _ J5.out.bel).1, (Fr.of_below J5.out.bel).trans' FW, (J5.out.bel.mono HBz.out).setCell (Nat.le_refl _) _, (Below.heap_setCell _ _ _ _ (show b0 + 2 ≠ b0 by omega)).trans (FRR.out _ J5.out.bel).2.2.1⟩
        · refine KCr.stepBs1 (by rfl) _ (by rfl) ((⟨kd, nm, tn, k, s⟩ : Ch)) (by rfl) ?_
          have J3 := hide (Lw2.first (x := (⟨kd, nm, tn, k, s⟩ : Ch)) J2.out)
          obtain ⟨u3, hu3⟩ : ∃ u3, u3 = (Value.slice (some ⟨w2_ca.heap.size, 0, none⟩) 1 1) := ⟨_, rfl⟩
          rw [← hu3] at J3 ⊢
          clear hu3
          generalize w2_ca.alloc (.cells (KCr.enc ((⟨kd, nm, tn, k, s⟩ : Ch))).toArray KCr.e) = w3_acf at *
          refine hK1.out _ _ ((FRR.out _ J3.out.a.bel).2.2.2) (fun hH => ?_)
          clear hK1
          change wpAnyH _ _ _ _ _ _ _ (Act.put _ (some 27) _) _
          simp only [Act.put, List.setIfInBounds_toArray, List.set_cons_zero, List.set_cons_succ]
          refine wpAnyH_ready (rs := [3]) (by kernel_rfl) (by simp) (AllReadyH.cons rfl (fun K1 hK1 => ?_) AllReadyH.nil)
          refine KCr.stepAppL (by rfl) _ _ (by rfl) v2 _ (by rfl) J3.out.a.ox (.slice al3 x.loose.length cl3) (x.loose) (by rfl) (LP.out.below J3.out.a.bel) ZA.out.1 ZA.out.2 ?_
          intro v4 w4_acfd o4 n4
          have J4 := hide (J3.out.app o4 n4)
          clear o4 n4
          refine hK1.out _ _ ((FRR.out _ J4.out.a.bel).2.2.2) (fun hH => ?_)
          clear hK1
          change wpAnyH _ _ _ _ _ _ _ (Act.put _ (some 25) _) _
          simp only [Act.put, List.setIfInBounds_toArray, List.set_cons_zero, List.set_cons_succ]
          refine wpAnyH_ready (rs := [6]) (by kernel_rfl) (by simp) (AllReadyH.cons rfl (fun K1 hK1 => ?_) AllReadyH.nil)
          refine KCr.stepAppL (by rfl) _ _ (by rfl) v4 _ (by rfl) J4.out.a.ox u3 [(⟨kd, nm, tn, k, s⟩ : Ch)] (by rfl) J4.out.b.ox.read ZB.out.1 ZB.out.2 ?_
          intro v5 w5_acdfg o5 n5
          have J5 := hide (J4.out.a.app o5 n5)
          clear o5 n5
          rw [List.nil_append] at J5
          refine hK1.out _ _ ((FRR.out _ J5.out.bel).2.2.2) (fun hH => ?_)
          clear hK1
          change wpAnyH _ _ _ _ _ _ _ (Act.put _ (some 28) _) _
          simp only [Act.put, List.setIfInBounds_toArray, List.set_cons_zero, List.set_cons_succ]
          refine wpAnyH_take (i := 7) (v := .pointer (some ⟨b0, 1, none⟩)) rfl (by kernel_rfl) (by kernel_rfl) (by kernel_rfl) (fun _ _ _ h => h) (.inl ⟨by rfl, fun W _ => by go_simp⟩) hH ?_
          change wpAnyH _ _ _ _ _ _ _ (Act.put _ (some 29) _) _
          simp only [Act.put, List.setIfInBounds_toArray, List.set_cons_zero, List.set_cons_succ]
          refine wpAnyH_ready (rs := [8]) (by kernel_rfl) (by simp) (AllReadyH.cons rfl (fun K1 hK1 => ?_) AllReadyH.nil)
          rw [EP.out] at J5
          obtain ⟨a9, c9, e9⟩ := J5.out.ox.form
          subst e9
          have cS := (FRR.out _ J5.out.bel).2.1
          have fS := frozen_of_row _ _ 1 _ _ (FRR.out _ J5.out.bel).1
          go_simp
          refine hK1.out _ _ ((Below.heap_setCell _ _ _ _ (show b0 + 1 ≠ b0 by omega)).trans (FRR.out _ J5.out.bel).2.2.2) (fun hH => ?_)
          clear hK1
          refine wpAnyH_done (by kernel_rfl) ?_ _
          go_wp2_with fail
          go_meet
          have FW := Fr.setCell (S := K2) w5_acdfg (p := ⟨b0, 1, none⟩) (HKo.out b0 (Nat.le_refl _) (by omega)) (.slice a9 PL.length c9)
          exact ⟨_, (J5.out.lxk HKz.out).write FW, heap_setCell_same w5_acdfg b0 1 _ _ _ (FRR.out _ J5.out.bel).1, (Fr.of_below J5.out.bel).trans' FW, (J5.out.bel.mono HBz.out).setCell (Nat.le_refl _) _, (Below.heap_setCell _ _ _ _ (show b0 + 2 ≠ b0 by omega)).trans (FRR.out _ J5.out.bel).2.2.1⟩
      · refine KCr.stepBs1 (by rfl) _ (by rfl) ((⟨kd, nm, tn, k, s⟩ : Ch)) (by rfl) ?_
        have J2 := hide (Lw.oneE (E := KCr) (x := (⟨kd, nm, tn, k, s⟩ : Ch)) (w0 := wz) BD.out)
        obtain ⟨u2, hu2⟩ : ∃ u2, u2 = (Value.slice (some ⟨wd.heap.size, 0, none⟩) 1 1) := ⟨_, rfl⟩
        rw [← hu2] at J2 ⊢
        clear hu2
        generalize wd.alloc (.cells (KCr.enc ((⟨kd, nm, tn, k, s⟩ : Ch))).toArray KCr.e) = w2_cf at *
        refine hK1.out _ _ ((FRR.out _ J2.out.bel).2.2.2) (fun hH => ?_)
        clear hK1
        change wpAnyH _ _ _ _ _ _ _ (Act.put _ (some 27) _) _
        simp only [Act.put, List.setIfInBounds_toArray, List.set_cons_zero, List.set_cons_succ]
        refine wpAnyH_ready (rs := [0]) (by kernel_rfl) (by simp) (AllReadyH.cons rfl (fun K1 hK1 => ?_) AllReadyH.nil)
        refine KCr.stepBs0 (by rfl) (by rfl) (bs0KCr _) ?_
        have J3 := hide (Lw2.second (E := KCr) J2.out)
        generalize w2_cf.alloc (.cells #[] KCr.e) = w3_cfa at *
        obtain ⟨v3, hv3⟩ : ∃ v3, v3 = (Value.slice (some ⟨w2_cf.heap.size, 0, none⟩) 0 0) := ⟨_, rfl⟩
        rw [← hv3] at J3 ⊢
        clear hv3
        refine hK1.out _ _ ((FRR.out _ J3.out.a.bel).2.2.2) (fun hH => ?_)
        clear hK1
        change wpAnyH _ _ _ _ _ _ _ (Act.put _ (some 22) _) _
        simp only [Act.put, List.setIfInBounds_toArray, List.set_cons_zero, List.set_cons_succ]
        refine wpAnyH_ready (rs := [3]) (by kernel_rfl) (by simp) (AllReadyH.cons rfl (fun K1 hK1 => ?_) AllReadyH.nil)
        refine KCr.stepAppL (by rfl) _ _ (by rfl) v3 _ (by rfl) J3.out.a.ox (.slice al3 x.loose.length cl3) (x.loose) (by rfl) (LP.out.below J3.out.a.bel) ZA.out.1 ZA.out.2 ?_
        intro v4 w4_acfd o4 n4
        have J4 := hide (J3.out.app o4 n4)
        clear o4 n4
        refine hK1.out _ _ ((FRR.out _ J4.out.a.bel).2.2.2) (fun hH => ?_)
        clear hK1
        change wpAnyH _ _ _ _ _ _ _ (Act.put _ (some 25) _) _
        simp only [Act.put, List.setIfInBounds_toArray, List.set_cons_zero, List.set_cons_succ]
        refine wpAnyH_ready (rs := [6]) (by kernel_rfl) (by simp) (AllReadyH.cons rfl (fun K1 hK1 => ?_) AllReadyH.nil)
        refine KCr.stepAppL (by rfl) _ _ (by rfl) v4 _ (by rfl) J4.out.a.ox u2 [(⟨kd, nm, tn, k, s⟩ : Ch)] (by rfl) J4.out.b.ox.read ZB.out.1 ZB.out.2 ?_
        intro v5 w5_acdfg o5 n5
        have J5 := hide (J4.out.a.app o5 n5)
        clear o5 n5
        rw [List.nil_append] at J5
        refine hK1.out _ _ ((FRR.out _ J5.out.bel).2.2.2) (fun hH => ?_)
        clear hK1
        change wpAnyH _ _ _ _ _ _ _ (Act.put _ (some 28) _) _
        simp only [Act.put, List.setIfInBounds_toArray, List.set_cons_zero, List.set_cons_succ]
        refine wpAnyH_take (i := 7) (v := .pointer (some ⟨b0, 1, none⟩)) rfl (by kernel_rfl) (by kernel_rfl) (by kernel_rfl) (fun _ _ _ h => h) (.inl ⟨by rfl, fun W _ => by go_simp⟩) hH ?_
        change wpAnyH _ _ _ _ _ _ _ (Act.put _ (some 29) _) _
        simp only [Act.put, List.setIfInBounds_toArray, List.set_cons_zero, List.set_cons_succ]
        refine wpAnyH_ready (rs := [8]) (by kernel_rfl) (by simp) (AllReadyH.cons rfl (fun K1 hK1 => ?_) AllReadyH.nil)
        rw [EP.out] at J5
        obtain ⟨a9, c9, e9⟩ := J5.out.ox.form
        subst e9
        have cS := (FRR.out _ J5.out.bel).2.1
        have fS := frozen_of_row _ _ 1 _ _ (FRR.out _ J5.out.bel).1
        go_simp
        refine hK1.out _ _ ((Below.heap_setCell _ _ _ _ (show b0 + 1 ≠ b0 by omega)).trans (FRR.out _ J5.out.bel).2.2.2) (fun hH => ?_)
        clear hK1
        refine wpAnyH_done (by kernel_rfl) ?_ _
        go_wp2_with fail
        go_meet
        have FW := Fr.setCell (S := K2) w5_acdfg (p := ⟨b0, 1, none⟩) (HKo.out b0 (Nat.le_refl _) (by omega)) (.slice a9 PL.length c9)
        exact ⟨_, (J5.out.lxk HKz.out).write FW, heap_setCell_same w5_acdfg b0 1 _ _ _ (FRR.out _ J5.out.bel).1, (Fr.of_below J5.out.bel).trans' FW, (J5.out.bel.mono HBz.out).setCell (Nat.le_refl _) _, (Below.heap_setCell _ _ _ _ (show b0 + 2 ≠ b0 by omega)).trans (FRR.out _ J5.out.bel).2.2.1⟩
    · refine KCr.stepBs1 (by rfl) _ (by rfl) ((⟨kd, nm, tn, k, s⟩ : Ch)) (by rfl) ?_
      have J1 := hide (Lw.oneE (E := KCr) (x := (⟨kd, nm, tn, k, s⟩ : Ch)) (w0 := wz) BD.out)
      obtain ⟨u1, hu1⟩ : ∃ u1, u1 = (Value.slice (some ⟨wd.heap.size, 0, none⟩) 1 1) := ⟨_, rfl⟩
      rw [← hu1] at J1 ⊢
      clear hu1
      generalize wd.alloc (.cells (KCr.enc ((⟨kd, nm, tn, k, s⟩ : Ch))).toArray KCr.e) = w1_f at *
      refine hK1.out _ _ ((FRR.out _ J1.out.bel).2.2.2) (fun hH => ?_)
      clear hK1
      change wpAnyH _ _ _ _ _ _ _ (Act.put _ (some 27) _) _
      simp only [Act.put, List.setIfInBounds_toArray, List.set_cons_zero, List.set_cons_succ]
      refine wpAnyH_ready (rs := [0, 2]) (by kernel_rfl) (by simp) (AllReadyH.cons rfl (fun K1 hK1 => ?_) (AllReadyH.cons rfl (fun K1 hK1 => ?_) AllReadyH.nil))
      · refine KCr.stepBs0 (by rfl) (by rfl) (bs0KCr _) ?_
        have J2 := hide (Lw2.second (E := KCr) J1.out)
        generalize w1_f.alloc (.cells #[] KCr.e) = w2_fa at *
        obtain ⟨v2, hv2⟩ : ∃ v2, v2 = (Value.slice (some ⟨w1_f.heap.size, 0, none⟩) 0 0) := ⟨_, rfl⟩
        rw [← hv2] at J2 ⊢
        clear hv2
        refine hK1.out _ _ ((FRR.out _ J2.out.a.bel).2.2.2) (fun hH => ?_)
        clear hK1
        change wpAnyH _ _ _ _ _ _ _ (Act.put _ (some 22) _) _
        simp only [Act.put, List.setIfInBounds_toArray, List.set_cons_zero, List.set_cons_succ]
        refine wpAnyH_ready (rs := [2]) (by kernel_rfl) (by simp) (AllReadyH.cons rfl (fun K1 hK1 => ?_) AllReadyH.nil)
        have cL := (FRR.out _ J2.out.a.bel).2.1
        go_simp
        refine hK1.out _ _ ((FRR.out _ J2.out.a.bel).2.2.2) (fun hH => ?_)
        clear hK1 cL
        refine wpAnyH_ready (rs := [3]) (by kernel_rfl) (by simp) (AllReadyH.cons rfl (fun K1 hK1 => ?_) AllReadyH.nil)
        refine KCr.stepAppL (by rfl) _ _ (by rfl) v2 _ (by rfl) J2.out.a.ox (.slice al3 x.loose.length cl3) (x.loose) (by rfl) (LP.out.below J2.out.a.bel) ZA.out.1 ZA.out.2 ?_
        intro v4 w4_acfd o4 n4
        have J4 := hide (J2.out.app o4 n4)
        clear o4 n4
        refine hK1.out _ _ ((FRR.out _ J4.out.a.bel).2.2.2) (fun hH => ?_)
        clear hK1
        change wpAnyH _ _ _ _ _ _ _ (Act.put _ (some 25) _) _
        simp only [Act.put, List.setIfInBounds_toArray, List.set_cons_zero, List.set_cons_succ]
        refine wpAnyH_ready (rs := [6]) (by kernel_rfl) (by simp) (AllReadyH.cons rfl (fun K1 hK1 => ?_) AllReadyH.nil)
        refine KCr.stepAppL (by rfl) _ _ (by rfl) v4 _ (by rfl) J4.out.a.ox u1 [(⟨kd, nm, tn, k, s⟩ : Ch)] (by rfl) J4.out.b.ox.read ZB.out.1 ZB.out.2 ?_
        intro v5 w5_acdfg o5 n5
        have J5 := hide (J4.out.a.app o5 n5)
        clear o5 n5
        rw [List.nil_append] at J5
        refine hK1.out _ _ ((FRR.out _ J5.out.bel).2.2.2) (fun hH => ?_)
        clear hK1
        change wpAnyH _ _ _ _ _ _ _ (Act.put _ (some 28) _) _
        simp only [Act.put, List.setIfInBounds_toArray, List.set_cons_zero, List.set_cons_succ]
        refine wpAnyH_take (i := 7) (v := .pointer (some ⟨b0, 1, none⟩)) rfl (by kernel_rfl) (by kernel_rfl) (by kernel_rfl) (fun _ _ _ h => h) (.inl ⟨by rfl, fun W _ => by go_simp⟩) hH ?_
        change wpAnyH _ _ _ _ _ _ _ (Act.put _ (some 29) _) _
        simp only [Act.put, List.setIfInBounds_toArray, List.set_cons_zero, List.set_cons_succ]
        refine wpAnyH_ready (rs := [8]) (by kernel_rfl) (by simp) (AllReadyH.cons rfl (fun K1 hK1 => ?_) AllReadyH.nil)
        rw [EP.out] at J5
        obtain ⟨a9, c9, e9⟩ := J5.out.ox.form
        subst e9
        have cS := (FRR.out _ J5.out.bel).2.1
        have fS := frozen_of_row _ _ 1 _ _ (FRR.out _ J5.out.bel).1
        go_simp
        refine hK1.out _ _ ((Below.heap_setCell _ _ _ _ (show b0 + 1 ≠ b0 by omega)).trans (FRR.out _ J5.out.bel).2.2.2) (fun hH => ?_)
        clear hK1
        refine wpAnyH_done (by kernel_rfl) ?_ _
        go_wp2_with fail
        go_meet
        have FW := Fr.setCell (S := K2) w5_acdfg (p := ⟨b0, 1, none⟩) (HKo.out b0 (Nat.le_refl _) (by omega)) (.slice a9 PL.length c9)
        exact ⟨_, (J5.out.lxk HKz.out).write FW, heap_setCell_same w5_acdfg b0 1 _ _ _ (FRR.out _ J5.out.bel).1, (Fr.of_below J5.out.bel).trans' FW, (J5.out.bel.mono HBz.out).setCell (Nat.le_refl _) _, (Below.heap_setCell _ _ _ _ (show b0 + 2 ≠ b0 by omega)).trans (FRR.out _ J5.out.bel).2.2.1⟩
      · have cL := (FRR.out _ J1.out.bel).2.1
        go_simp
        refine hK1.out _ _ ((FRR.out _ J1.out.bel).2.2.2) (fun hH => ?_)
        clear hK1 cL
        refine wpAnyH_ready (rs := [0]) (by kernel_rfl) (by simp) (AllReadyH.cons rfl (fun K1 hK1 => ?_) AllReadyH.nil)
        refine KCr.stepBs0 (by rfl) (by rfl) (bs0KCr _) ?_
        have J3 := hide (Lw2.second (E := KCr) J1.out)
        generalize w1_f.alloc (.cells #[] KCr.e) = w3_cfa at *
        obtain ⟨v3, hv3⟩ : ∃ v3, v3 = (Value.slice (some ⟨w1_f.heap.size, 0, none⟩) 0 0) := ⟨_, rfl⟩
        rw [← hv3] at J3 ⊢
        clear hv3
        refine hK1.out _ _ ((FRR.out _ J3.out.a.bel).2.2.2) (fun hH => ?_)
        clear hK1
        change wpAnyH _ _ _ _ _ _ _ (Act.put _ (some 22) _) _
        simp only [Act.put, List.setIfInBounds_toArray, List.set_cons_zero, List.set_cons_succ]
        refine wpAnyH_ready (rs := [3]) (by kernel_rfl) (by simp) (AllReadyH.cons rfl (fun K1 hK1 => ?_) AllReadyH.nil)
        refine KCr.stepAppL (by rfl) _ _ (by rfl) v3 _ (by rfl) J3.out.a.ox (.slice al3 x.loose.length cl3) (x.loose) (by rfl) (LP.out.below J3.out.a.bel) ZA.out.1 ZA.out.2 ?_
        intro v4 w4_acfd o4 n4
        have J4 := hide (J3.out.app o4 n4)
        clear o4 n4
        refine hK1.out _ _ ((FRR.out _ J4.out.a.bel).2.2.2) (fun hH => ?_)
        clear hK1
        change wpAnyH _ _ _ _ _ _ _ (Act.put _ (some 25) _) _
        simp only [Act.put, List.setIfInBounds_toArray, List.set_cons_zero, List.set_cons_succ]
        refine wpAnyH_ready (rs := [6]) (by kernel_rfl) (by simp) (AllReadyH.cons rfl (fun K1 hK1 => ?_) AllReadyH.nil)
        refine KCr.stepAppL (by rfl) _ _ (by rfl) v4 _ (by rfl) J4.out.a.ox u1 [(⟨kd, nm, tn, k, s⟩ : Ch)] (by rfl) J4.out.b.ox.read ZB.out.1 ZB.out.2 ?_
        intro v5 w5_acdfg o5 n5
        have J5 := hide (J4.out.a.app o5 n5)
        clear o5 n5
        rw [List.nil_append] at J5
        refine hK1.out _ _ ((FRR.out _ J5.out.bel).2.2.2) (fun hH => ?_)
        clear hK1
        change wpAnyH _ _ _ _ _ _ _ (Act.put _ (some 28) _) _
        simp only [Act.put, List.setIfInBounds_toArray, List.set_cons_zero, List.set_cons_succ]
        refine wpAnyH_take (i := 7) (v := .pointer (some ⟨b0, 1, none⟩)) rfl (by kernel_rfl) (by kernel_rfl) (by kernel_rfl) (fun _ _ _ h => h) (.inl ⟨by rfl, fun W _ => by go_simp⟩) hH ?_
        change wpAnyH _ _ _ _ _ _ _ (Act.put _ (some 29) _) _
        simp only [Act.put, List.setIfInBounds_toArray, List.set_cons_zero, List.set_cons_succ]
        refine wpAnyH_ready (rs := [8]) (by kernel_rfl) (by simp) (AllReadyH.cons rfl (fun K1 hK1 => ?_) AllReadyH.nil)
        rw [EP.out] at J5
        obtain ⟨a9, c9, e9⟩ := J5.out.ox.form
        subst e9
        have cS := (FRR.out _ J5.out.bel).2.1
        have fS := frozen_of_row _ _ 1 _ _ (FRR.out _ J5.out.bel).1
        go_simp
        refine hK1.out _ _ ((Below.heap_setCell _ _ _ _ (show b0 + 1 ≠ b0 by omega)).trans (FRR.out _ J5.out.bel).2.2.2) (fun hH => ?_)
        clear hK1
        refine wpAnyH_done (by kernel_rfl) ?_ _
        go_wp2_with fail
        go_meet
        have FW := Fr.setCell (S := K2) w5_acdfg (p := ⟨b0, 1, none⟩) (HKo.out b0 (Nat.le_refl _) (by omega)) (.slice a9 PL.length c9)
        exact ⟨_, (J5.out.lxk HKz.out).write FW, heap_setCell_same w5_acdfg b0 1 _ _ _ (FRR.out _ J5.out.bel).1, (Fr.of_below J5.out.bel).trans' FW, (J5.out.bel.mono HBz.out).setCell (Nat.le_refl _) _, (Below.heap_setCell _ _ _ _ (show b0 + 2 ≠ b0 by omega)).trans (FRR.out _ J5.out.bel).2.2.1⟩
  obtain ⟨v9, HX9⟩ := hcut
  obtain ⟨a9, c9, e9⟩ := HX9.out.1.form
  subst e9
  have RA9 := hide HX9.out.2.1
  have RB9 := hide HX9.out.2.2.2.2
  have c2 : wc.cell? ⟨b0, 2, none⟩ = some (.int .i64 (x.made : Int)) := by rw [cell_of_row _ _ _ _ _ _ RA9.out]; rfl
  have f2 := frozen_of_row _ _ 2 _ _ RA9.out
  have e1 : IntKind.i64.wrap ((x.made : Int) + 1) = (x.made : Int) + 1 := wrapI _ (by omega) (by have := HMD.out; omega)
  have D9 : Hid (RD K2 wc (.slice ao3 n3 cs3) (.slice a9 PL.length c9) (.slice ap3 x.plan.length cp3) S3 (mkC x (⟨kd, nm, tn, k, s⟩ : Ch))) := by
    refine ⟨D4.out.sure.write HX9.out.2.2.1, D4.out.rep, ?_, D4.out.plan.write HX9.out.2.2.1⟩
    show LXK KCr K2 wc _ (x.loose ++ [(⟨kd, nm, tn, k, s⟩ : Ch)])
    rw [EP.out]
    exact HX9.out.1
  have BX : Hid (Below w.heap.size w wc) := by
    have h1 := BW.out
    have h2 := HX9.out.2.2.2.1
    rw [← hgb] at h2
    exact h1.trans h2
  clear FRR LP ZA ZB HX9 R4 RB4 RC4 D4
  go_upto_region 9 with fail
  clear c2 f2 e1
  have RA10 : Hid ((wc.setCell ⟨b0, 2, none⟩ (.int .i64 ((x.made : Int) + 1))).heap[b0]? = some (.cells #[.slice ao3 n3 cs3, .slice a9 PL.length c9, .int .i64 ((x.made : Int) + 1), .slice ap3 x.plan.length cp3, .bool x.dead] 30 (0, 0))) := heap_setCell_same wc b0 2 _ _ (.int .i64 ((x.made : Int) + 1)) RA9.out
  have RB10 : Hid ((wc.setCell ⟨b0, 2, none⟩ (.int .i64 ((x.made : Int) + 1))).heap[b0 + 2]? = some (.cells (dcs (.slice none 0 0) (.slice none 0 0) 0 (.slice none 0 0) false) 30 (0, 0))) := (Below.heap_setCell _ _ _ _ (show b0 + 2 ≠ b0 by omega)).trans RB9.out
  have D10 := hide (D9.out.write (Fr.setCell (S := K2) wc (p := ⟨b0, 2, none⟩) (HKo.out b0 (Nat.le_refl _) (by omega)) (.int .i64 ((x.made : Int) + 1))))
  have BX2 : Hid (Below w.heap.size w (wc.setCell ⟨b0, 2, none⟩ (.int .i64 ((x.made : Int) + 1)))) := BX.out.setCell (show w.heap.size ≤ b0 by omega) _
  generalize wc.setCell ⟨b0, 2, none⟩ (.int .i64 ((x.made : Int) + 1)) = W10 at *
  go_wp2_with ((with_reducible refine at_list ?_); first | refine wpList_loadA ADd rfl _ rfl b0 rfl _ (by rfl) _ RA10.out ?_ | refine wpList_storeA ADd rfl _ _ rfl (b0 + 2) _ (by rfl) (by simp [Value.oneCell']) rfl rfl _ (by rfl) _ RB10.out ?_)
  refine bodyPost_ret (resA2 ADd Try.results14 _ _ (b0 + 2) 30 _ rfl (by rfl) (setRow_heap _ _ _ _ _ _ RB10.out) _ (by rfl)) rfl ⟨_, rfl, ⟨_, _, _, S3, rfl, (D10.out.write (Fr.setRow (S := K2) W10 (HKo.out (b0 + 2) (by omega) (by omega)) _)).mono HKn.out⟩, ?_⟩
  have h5 := BX2.out
  first | exact below_setRow h5 (by omega) _ | (rw [hgb] at h5; exact below_setRow h5 (by omega) _) | (rw [← hgb] at h5; exact below_setRow h5 (by omega) _)
end
end Go.Proofs.Ythnfpdmhjennlaa
