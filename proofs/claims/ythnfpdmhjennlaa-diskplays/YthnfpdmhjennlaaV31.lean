/- The document's disk: Make in one, Append, Sync. -/
import Derived.Test.YthnfpdmhjennlaaV30
namespace Go.Proofs.Ythnfpdmhjennlaa
open Go.RowKit
open Go.Deep
open Go.Lib
set_option linter.unusedVariables false
/-- What Make answers, and the disk behind it. -/
def maE (x : St) (kd : Nat) (nm tn : ByteArray) (k : Int) (s : ByteArray) : Int := if rwE x kd nm tn k s = 0 then stE x false else rwE x kd nm tn k s
def maS (x : St) (kd : Nat) (nm tn : ByteArray) (k : Int) (s : ByteArray) : St := if rwE x kd nm tn k s = 0 then doS x ⟨kd, nm, tn, k.toNat, s⟩ else x
theorem rw_live {x : St} {kd : Nat} (hkd : kd ≤ 3) {nm tn s : ByteArray} {k : Int} (h : rwE x kd nm tn k s = 0) : x.dead = false ∧ (kd ≤ 1 → 0 ≤ k) := by
  have hcs : kd = 0 ∨ kd = 1 ∨ kd = 2 ∨ kd = 3 := by omega
  have no : ∀ n : Int, n ≠ 0 → rwE x kd nm tn k s ≠ n := fun n hn e => hn (e.symm.trans h)
  cases hd : x.dead
  · refine ⟨rfl, fun h1 => ?_⟩
    by_cases c : k < 0
    · cases hN : isName nm.data.toList
      · exact absurd (show rwE x kd nm tn k s = 70 by rcases hcs with rfl | rfl | rfl | rfl <;> simp [rwE, wrE, ctE, mvE, fnd, rdy, hd, hN]) (no 70 (by decide))
      · rcases hcs with rfl | rfl | rfl | rfl
        · exact absurd (show rwE x 0 nm tn k s = 1 by simp [rwE, wrE, rdy, hd, hN, c]) (no 1 (by decide))
        · cases hg : (x.now.get (ls nm)).isSome
          · exact absurd (show rwE x 1 nm tn k s = 2 by simp [rwE, ctE, fnd, rdy, hd, hN, hg]) (no 2 (by decide))
          · exact absurd (show rwE x 1 nm tn k s = 1 by simp [rwE, ctE, fnd, rdy, hd, hN, hg, c]) (no 1 (by decide))
        · omega
        · omega
    · omega
  · exact absurd (show rwE x kd nm tn k s = 7 by rcases hcs with rfl | rfl | rfl | rfl <;> simp [rwE, wrE, ctE, mvE, fnd, rdy, hd]) (no 7 (by decide))
section
variable {K : Nat → Prop} {x : St} {v : Value} {w : World}
theorem rmake_any (kd : Nat) (nm tn : ByteArray) (k : Int) (s : ByteArray) (hv : isD K w v x) (hV : Vd x) (hK : ∀ g, K g → g < w.heap.size) (hkd : kd ≤ 3) (hm : nm.size ≤ maxLen) (htn : tn.size ≤ maxLen) (hs : s.size ≤ maxLen) (hk1 : -9223372036854775808 ≤ k) (hk2 : k < 9223372036854775808) (hk0 : 1 < kd → k = 0) (hP : okP x.plan) (hz : x.plan.length * 32 ≤ 140737488355328) (hmd : x.made < 1000000) : Calls Try.prog 14 #[v, .agg #[.int .i64 (kd : Int), .string nm, .string tn, .int .i64 k, .string s]] w fun e w' => ∃ v', e = .returned (.tuple #[v', .int .i64 (maE x kd nm tn k s)]) ∧ isD K w' v' (maS x kd nm tn k s) ∧ Below w.heap.size w w' := by
  unfold maE maS
  by_cases he : rwE x kd nm tn k s = 0
  · rw [if_pos he, if_pos he]
    obtain ⟨hd, hk⟩ := rw_live hkd he
    have h0 : 0 ≤ k := by
      by_cases c : kd ≤ 1
      · exact hk c
      · rw [hk0 (by omega)]
        omega
    unfold stE doS
    cases hs2 : stS x false with
    | none =>
      obtain ⟨m, rfl⟩ := Int.eq_ofNat_of_zero_le h0
      exact rmake_ok kd nm tn m s hv hV hK hkd hm htn hs hk1 hk2 he hP hz hd hmd hs2
    | some y => exact rmake_hit kd nm tn k s hv hV hK hkd hm htn hs hk1 hk2 he hP hz hd y hs2
  · rw [if_neg he, if_neg he]
    exact rmake_err kd nm tn k s hv hV hK hkd hm htn hs hk1 hk2 he
end
section
set_option maxRecDepth 10000
set_option maxHeartbeats 8000000
variable {K : Nat → Prop} {x : St} {v : Value} {w : World}
theorem rappend_any (nm s : ByteArray) (hv : isD K w v x) (hV : Vd x) (hK : ∀ g, K g → g < w.heap.size) (hm : nm.size ≤ maxLen) (hs : s.size ≤ maxLen) (hP : okP x.plan) (hz : x.plan.length * 32 ≤ 140737488355328) (hmd : x.made < 1000000) : Calls Try.prog 15 #[v, .string nm, .string s] w fun e w' => ∃ v', e = .returned (.tuple #[v', .int .i64 (maE x 0 nm ⟨#[]⟩ (x.now.at (ls nm)).length s)]) ∧ isD K w' v' (maS x 0 nm ⟨#[]⟩ (x.now.at (ls nm)).length s) ∧ Below w.heap.size w w' := by
  have hbl := hV.bd2.len (ls nm)
  obtain ⟨ao, n, cs, al, cl, ap, cp, rfl⟩ := hv.form
  have s1 : (w.alloc (.cells #[.slice ao n cs, .slice al x.loose.length cl, .int .i64 (x.made : Int), .slice ap x.plan.length cp, .bool x.dead] 30)).heap.size = w.heap.size + 1 := by simp
  have r1 := (Below.heap_alloc _ (.cells (dcs (.slice none 0 0) (.slice none 0 0) 0 (.slice none 0 0) false) 30) w.heap.size (by rw [s1]; omega)).trans (heap_alloc_last w (.cells #[.slice ao n cs, .slice al x.loose.length cl, .int .i64 (x.made : Int), .slice ap x.plan.length cp, .bool x.dead] 30))
  have r2 := heap_alloc_last (w.alloc (.cells #[.slice ao n cs, .slice al x.loose.length cl, .int .i64 (x.made : Int), .slice ap x.plan.length cp, .bool x.dead] 30)) (.cells (dcs (.slice none 0 0) (.slice none 0 0) 0 (.slice none 0 0) false) 30)
  rw [s1] at r2
  have hB : Below w.heap.size w ((w.alloc (.cells #[.slice ao n cs, .slice al x.loose.length cl, .int .i64 (x.made : Int), .slice ap x.plan.length cp, .bool x.dead] 30)).alloc (.cells (dcs (.slice none 0 0) (.slice none 0 0) 0 (.slice none 0 0) false) 30)) := ((Below.refl w.heap.size w).alloc (Nat.le_refl _) _).alloc (by rw [s1]; omega) _
  have HB := hide hB
  have R1 := hide r1
  have R2 := hide r2
  have H1 := hide (hv.up hB)
  have HK : Hid (∀ g, grow K w ((w.alloc (.cells #[.slice ao n cs, .slice al x.loose.length cl, .int .i64 (x.made : Int), .slice ap x.plan.length cp, .bool x.dead] 30)).alloc (.cells (dcs (.slice none 0 0) (.slice none 0 0) 0 (.slice none 0 0) false) 30)) g → g < ((w.alloc (.cells #[.slice ao n cs, .slice al x.loose.length cl, .int .i64 (x.made : Int), .slice ap x.plan.length cp, .bool x.dead] 30)).alloc (.cells (dcs (.slice none 0 0) (.slice none 0 0) 0 (.slice none 0 0) false) 30)).heap.size) := grow_lt hK hB.size
  have HKn : Hid (∀ g, K g → grow K w ((w.alloc (.cells #[.slice ao n cs, .slice al x.loose.length cl, .int .i64 (x.made : Int), .slice ap x.plan.length cp, .bool x.dead] 30)).alloc (.cells (dcs (.slice none 0 0) (.slice none 0 0) 0 (.slice none 0 0) false) 30)) g) := fun g hg => .inl hg
  have HKo : Hid (∀ g, w.heap.size ≤ g → g < w.heap.size + 2 → grow K w ((w.alloc (.cells #[.slice ao n cs, .slice al x.loose.length cl, .int .i64 (x.made : Int), .slice ap x.plan.length cp, .bool x.dead] 30)).alloc (.cells (dcs (.slice none 0 0) (.slice none 0 0) 0 (.slice none 0 0) false) 30)) g) := fun g h1 h2 => .inr ⟨h1, by simp; omega⟩
  have HVd := hide hV
  have HX := hide (And.intro hm (And.intro hs (And.intro hP (And.intro hz (And.intro hmd hbl)))))
  clear hB r1 r2 hv hV hK hm hs hP hz hmd hbl
  generalize grow K w ((w.alloc (.cells #[.slice ao n cs, .slice al x.loose.length cl, .int .i64 (x.made : Int), .slice ap x.plan.length cp, .bool x.dead] 30)).alloc (.cells (dcs (.slice none 0 0) (.slice none 0 0) 0 (.slice none 0 0) false) 30)) = K2 at *
  go_enter Try.func15, Try.ntmps15
  go_upto_region 1 with ((with_reducible refine at_list ?_); first | refine wpList_boxA rfl _ rfl _ rfl ?_ | refine wpList_allocA ADd rfl rfl ?_)
  try rw [s1]
  clear s1
  generalize ((w.alloc (.cells #[.slice ao n cs, .slice al x.loose.length cl, .int .i64 (x.made : Int), .slice ap x.plan.length cp, .bool x.dead] 30)).alloc (.cells (dcs (.slice none 0 0) (.slice none 0 0) 0 (.slice none 0 0) false) 30)) = W1 at *
  generalize hgb : w.heap.size = b0 at *
  go_upto_region 2 with (first | ((with_reducible refine at_list ?_); refine wpList_loadA ADd rfl _ rfl b0 rfl _ rfl _ R1.out ?_) | (go_at_call 33; refine (rget_any K2 x _ nm _ H1.out HVd.out HK.out).mono ?_; rintro e W2 ⟨t, ht, rfl, b2⟩; have TS : Hid (t.size = (x.now.at (ls nm)).length) := (by show _ = _; rw [← ht, ls_len]); have B2 := hide b2; have RA := hide ((b2.block _ (lt_heap R1.out)).trans R1.out); have RB := hide ((b2.block _ (lt_heap R2.out)).trans R2.out); clear ht b2))
  have H2 := hide (H1.out.next B2.out)
  have HK2 : Hid (∀ g, K2 g → g < W2.heap.size) := fun q hq => Nat.lt_of_lt_of_le (HK.out q hq) B2.out.size
  have HM : Hid (Calls Try.prog 14 #[.agg #[.slice ao n cs, .slice al x.loose.length cl, .int .i64 (x.made : Int), .slice ap x.plan.length cp, .bool x.dead], .agg #[.int .i64 0, .string nm, .string ⟨#[]⟩, .int .i64 (t.size : Int), .string s]] W2 fun e w' => ∃ v', e = .returned (.tuple #[v', .int .i64 (maE x 0 nm ⟨#[]⟩ (x.now.at (ls nm)).length s)]) ∧ isD K2 w' v' (maS x 0 nm ⟨#[]⟩ (x.now.at (ls nm)).length s) ∧ Below W2.heap.size W2 w') := by
    have h1 := HX.out
    rw [TS.out]
    exact rmake_any 0 nm ⟨#[]⟩ (x.now.at (ls nm)).length s H2.out HVd.out HK2.out (by omega) h1.1 (by decide) h1.2.1 (by omega) (by have := h1.2.2.2.2.2; omega) (fun h => by omega) h1.2.2.1 h1.2.2.2.1 h1.2.2.2.2.1
  generalize hE0 : maE x 0 nm ⟨#[]⟩ (x.now.at (ls nm)).length s = e0 at *
  generalize hX0 : maS x 0 nm ⟨#[]⟩ (x.now.at (ls nm)).length s = x0 at *
  have E0 := hide hE0
  have X0 := hide hX0
  clear hE0 hX0
  go_wp2_with (first | ((with_reducible refine at_list ?_); first | refine wpList_loadA ADd rfl _ rfl b0 rfl _ rfl _ RA.out ?_ | refine wpList_storeA ADd rfl _ _ rfl (b0 + 1) _ (by rfl) (by simp [Value.oneCell']) rfl rfl _ (by rfl) _ RB3.out ?_) | (go_at_call 14; refine HM.out.mono ?_; rintro e W3 ⟨v3, rfl, d3, b3⟩; obtain ⟨ao3, n3, cs3, al3, cl3, ap3, cp3, e3⟩ := d3.form; subst e3; have D3 := hide d3; have B3 := hide b3; have RB3 := hide ((b3.block _ (lt_heap RB.out)).trans RB.out); clear d3 b3))
  refine bodyPost_ret (resA2 ADd Try.results15 _ _ (b0 + 1) 30 _ rfl (by rfl) (setRow_heap _ _ _ _ _ _ RB3.out) _ (by rfl)) rfl ⟨_, by rw [E0.out]; rfl, by rw [X0.out]; exact (D3.out.write (Fr.setRow (S := K2) W3 (HKo.out (b0 + 1) (by omega) (by omega)) _)).mono HKn.out, ?_⟩
  have h5 : Below w.heap.size w W3 := by
    have h1 := HB.out
    rw [← hgb] at h1
    exact below_next (below_next h1 B2.out) B3.out
  first | exact below_setRow h5 (by omega) _ | (rw [hgb] at h5; exact below_setRow h5 (by omega) _) | (rw [← hgb] at h5; exact below_setRow h5 (by omega) _)
theorem rsync_dead (hv : isD K w v x) (hV : Vd x) (hK : ∀ g, K g → g < w.heap.size) (hd : x.dead = true) : Calls Try.prog 19 #[v] w fun e w' => ∃ v', e = .returned (.tuple #[v', .int .i64 7]) ∧ isD K w' v' x ∧ Below w.heap.size w w' := by
  obtain ⟨ao, n, cs, al, cl, ap, cp, rfl⟩ := hv.form
  have s1 : (w.alloc (.cells #[.slice ao n cs, .slice al x.loose.length cl, .int .i64 (x.made : Int), .slice ap x.plan.length cp, .bool x.dead] 30)).heap.size = w.heap.size + 1 := by simp
  have r1 := (Below.heap_alloc _ (.cells (dcs (.slice none 0 0) (.slice none 0 0) 0 (.slice none 0 0) false) 30) w.heap.size (by rw [s1]; omega)).trans (heap_alloc_last w (.cells #[.slice ao n cs, .slice al x.loose.length cl, .int .i64 (x.made : Int), .slice ap x.plan.length cp, .bool x.dead] 30))
  have r2 := heap_alloc_last (w.alloc (.cells #[.slice ao n cs, .slice al x.loose.length cl, .int .i64 (x.made : Int), .slice ap x.plan.length cp, .bool x.dead] 30)) (.cells (dcs (.slice none 0 0) (.slice none 0 0) 0 (.slice none 0 0) false) 30)
  rw [s1] at r2
  have hB : Below w.heap.size w ((w.alloc (.cells #[.slice ao n cs, .slice al x.loose.length cl, .int .i64 (x.made : Int), .slice ap x.plan.length cp, .bool x.dead] 30)).alloc (.cells (dcs (.slice none 0 0) (.slice none 0 0) 0 (.slice none 0 0) false) 30)) := ((Below.refl w.heap.size w).alloc (Nat.le_refl _) _).alloc (by rw [s1]; omega) _
  have HB := hide hB
  have R1 := hide r1
  have R2 := hide r2
  have H1 := hide (hv.up hB)
  have HK : Hid (∀ g, grow K w ((w.alloc (.cells #[.slice ao n cs, .slice al x.loose.length cl, .int .i64 (x.made : Int), .slice ap x.plan.length cp, .bool x.dead] 30)).alloc (.cells (dcs (.slice none 0 0) (.slice none 0 0) 0 (.slice none 0 0) false) 30)) g → g < ((w.alloc (.cells #[.slice ao n cs, .slice al x.loose.length cl, .int .i64 (x.made : Int), .slice ap x.plan.length cp, .bool x.dead] 30)).alloc (.cells (dcs (.slice none 0 0) (.slice none 0 0) 0 (.slice none 0 0) false) 30)).heap.size) := grow_lt hK hB.size
  have HKn : Hid (∀ g, K g → grow K w ((w.alloc (.cells #[.slice ao n cs, .slice al x.loose.length cl, .int .i64 (x.made : Int), .slice ap x.plan.length cp, .bool x.dead] 30)).alloc (.cells (dcs (.slice none 0 0) (.slice none 0 0) 0 (.slice none 0 0) false) 30)) g) := fun g hg => .inl hg
  have HKo : Hid (∀ g, w.heap.size ≤ g → g < w.heap.size + 2 → grow K w ((w.alloc (.cells #[.slice ao n cs, .slice al x.loose.length cl, .int .i64 (x.made : Int), .slice ap x.plan.length cp, .bool x.dead] 30)).alloc (.cells (dcs (.slice none 0 0) (.slice none 0 0) 0 (.slice none 0 0) false) 30)) g) := fun g h1 h2 => .inr ⟨h1, by simp; omega⟩
  have HVd := hide hV
  have HDD := hide hd
  clear hB r1 r2 hv hV hK hd
  generalize grow K w ((w.alloc (.cells #[.slice ao n cs, .slice al x.loose.length cl, .int .i64 (x.made : Int), .slice ap x.plan.length cp, .bool x.dead] 30)).alloc (.cells (dcs (.slice none 0 0) (.slice none 0 0) 0 (.slice none 0 0) false) 30)) = K2 at *
  go_enter Try.func19, Try.ntmps19
  go_upto_region 1 with ((with_reducible refine at_list ?_); first | refine wpList_boxA rfl _ rfl _ rfl ?_ | refine wpList_allocA ADd rfl rfl ?_)
  try rw [s1]
  clear s1
  generalize ((w.alloc (.cells #[.slice ao n cs, .slice al x.loose.length cl, .int .i64 (x.made : Int), .slice ap x.plan.length cp, .bool x.dead] 30)).alloc (.cells (dcs (.slice none 0 0) (.slice none 0 0) 0 (.slice none 0 0) false) 30)) = W1 at *
  generalize hgb : w.heap.size = b0 at *
  have d4 : W1.cell? ⟨b0, 4, none⟩ = some (.bool x.dead) := by rw [cell_of_row _ _ _ _ _ _ R1.out]; rfl
  rw [HDD.out] at d4
  go_wp2_with ((with_reducible refine at_list ?_); first | refine wpList_loadA ADd rfl _ rfl b0 rfl _ rfl _ R1.out ?_ | refine wpList_storeA ADd rfl _ _ rfl (b0 + 1) _ (by rfl) (by simp [Value.oneCell']) rfl rfl _ (by rfl) _ R2.out ?_)
  refine bodyPost_ret (resA2 ADd Try.results19 _ _ (b0 + 1) 30 _ rfl (by rfl) (setRow_heap _ _ _ _ _ _ R2.out) _ (by rfl)) rfl ⟨_, rfl, (H1.out.write (Fr.setRow (S := K2) W1 (HKo.out (b0 + 1) (by omega) (by omega)) _)).mono HKn.out, ?_⟩
  have h5 := HB.out
  first | exact below_setRow h5 (by omega) _ | (rw [hgb] at h5; exact below_setRow h5 (by omega) _) | (rw [← hgb] at h5; exact below_setRow h5 (by omega) _)
theorem rsync_hit (hv : isD K w v x) (hV : Vd x) (hK : ∀ g, K g → g < w.heap.size) (hP : okP x.plan) (hz : x.plan.length * 32 ≤ 140737488355328) (hd : x.dead = false) (y : St) (hs2 : stS x true = some y) : Calls Try.prog 19 #[v] w fun e w' => ∃ v', e = .returned (.tuple #[v', .int .i64 7]) ∧ isD K w' v' y ∧ Below w.heap.size w w' := by
  obtain ⟨ao, n, cs, al, cl, ap, cp, rfl⟩ := hv.form
  have s1 : (w.alloc (.cells #[.slice ao n cs, .slice al x.loose.length cl, .int .i64 (x.made : Int), .slice ap x.plan.length cp, .bool x.dead] 30)).heap.size = w.heap.size + 1 := by simp
  have r1 := (Below.heap_alloc _ (.cells (dcs (.slice none 0 0) (.slice none 0 0) 0 (.slice none 0 0) false) 30) w.heap.size (by rw [s1]; omega)).trans (heap_alloc_last w (.cells #[.slice ao n cs, .slice al x.loose.length cl, .int .i64 (x.made : Int), .slice ap x.plan.length cp, .bool x.dead] 30))
  have r2 := heap_alloc_last (w.alloc (.cells #[.slice ao n cs, .slice al x.loose.length cl, .int .i64 (x.made : Int), .slice ap x.plan.length cp, .bool x.dead] 30)) (.cells (dcs (.slice none 0 0) (.slice none 0 0) 0 (.slice none 0 0) false) 30)
  rw [s1] at r2
  have hB : Below w.heap.size w ((w.alloc (.cells #[.slice ao n cs, .slice al x.loose.length cl, .int .i64 (x.made : Int), .slice ap x.plan.length cp, .bool x.dead] 30)).alloc (.cells (dcs (.slice none 0 0) (.slice none 0 0) 0 (.slice none 0 0) false) 30)) := ((Below.refl w.heap.size w).alloc (Nat.le_refl _) _).alloc (by rw [s1]; omega) _
  have HB := hide hB
  have R1 := hide r1
  have R2 := hide r2
  have H1 := hide (hv.up hB)
  have HK : Hid (∀ g, grow K w ((w.alloc (.cells #[.slice ao n cs, .slice al x.loose.length cl, .int .i64 (x.made : Int), .slice ap x.plan.length cp, .bool x.dead] 30)).alloc (.cells (dcs (.slice none 0 0) (.slice none 0 0) 0 (.slice none 0 0) false) 30)) g → g < ((w.alloc (.cells #[.slice ao n cs, .slice al x.loose.length cl, .int .i64 (x.made : Int), .slice ap x.plan.length cp, .bool x.dead] 30)).alloc (.cells (dcs (.slice none 0 0) (.slice none 0 0) 0 (.slice none 0 0) false) 30)).heap.size) := grow_lt hK hB.size
  have HKn : Hid (∀ g, K g → grow K w ((w.alloc (.cells #[.slice ao n cs, .slice al x.loose.length cl, .int .i64 (x.made : Int), .slice ap x.plan.length cp, .bool x.dead] 30)).alloc (.cells (dcs (.slice none 0 0) (.slice none 0 0) 0 (.slice none 0 0) false) 30)) g) := fun g hg => .inl hg
  have HKo : Hid (∀ g, w.heap.size ≤ g → g < w.heap.size + 2 → grow K w ((w.alloc (.cells #[.slice ao n cs, .slice al x.loose.length cl, .int .i64 (x.made : Int), .slice ap x.plan.length cp, .bool x.dead] 30)).alloc (.cells (dcs (.slice none 0 0) (.slice none 0 0) 0 (.slice none 0 0) false) 30)) g) := fun g h1 h2 => .inr ⟨h1, by simp; omega⟩
  have HVd := hide hV
  have HDD := hide hd
  have HPP := hide (And.intro hP hz)
  have HS := hide hs2
  clear hB r1 r2 hv hV hK hd hP hz hs2
  generalize grow K w ((w.alloc (.cells #[.slice ao n cs, .slice al x.loose.length cl, .int .i64 (x.made : Int), .slice ap x.plan.length cp, .bool x.dead] 30)).alloc (.cells (dcs (.slice none 0 0) (.slice none 0 0) 0 (.slice none 0 0) false) 30)) = K2 at *
  go_enter Try.func19, Try.ntmps19
  go_upto_region 1 with ((with_reducible refine at_list ?_); first | refine wpList_boxA rfl _ rfl _ rfl ?_ | refine wpList_allocA ADd rfl rfl ?_)
  try rw [s1]
  clear s1
  generalize ((w.alloc (.cells #[.slice ao n cs, .slice al x.loose.length cl, .int .i64 (x.made : Int), .slice ap x.plan.length cp, .bool x.dead] 30)).alloc (.cells (dcs (.slice none 0 0) (.slice none 0 0) 0 (.slice none 0 0) false) 30)) = W1 at *
  generalize hgb : w.heap.size = b0 at *
  have d4 : W1.cell? ⟨b0, 4, none⟩ = some (.bool x.dead) := by rw [cell_of_row _ _ _ _ _ _ R1.out]; rfl
  rw [HDD.out] at d4
  go_upto_region 4 with (first | ((with_reducible refine at_list ?_); first | refine wpList_loadA ADd rfl _ rfl b0 rfl _ rfl _ R1.out ?_ | refine wpList_storeA ADd rfl _ _ rfl b0 _ (by rfl) (by simp [Value.oneCell']) rfl rfl _ (by rfl) _ RA3.out ?_) | (go_at_call 42; refine (rstrikes_any K2 x _ true _ H1.out HVd.out HPP.out.1 HPP.out.2 HDD.out HK.out).mono ?_; rintro e W3 ⟨v3, rfl, d3, b3⟩; rw [HS.out] at d3 ⊢; obtain ⟨ao3, n3, cs3, al3, cl3, ap3, cp3, S3, e3, dd3⟩ := dcs_form d3; subst e3; have D3 := hide dd3; have B3 := hide b3; have RA3 := hide ((b3.block _ (lt_heap R1.out)).trans R1.out); have RB3 := hide ((b3.block _ (lt_heap R2.out)).trans R2.out); clear d3 dd3 b3))
  try simp only [Act.put, List.setIfInBounds_toArray, List.set_cons_succ, List.set_cons_zero]
  have R4 : Hid ((W3.setRow b0 #[.slice ao3 n3 cs3, .slice al3 y.loose.length cl3, .int .i64 (y.made : Int), .slice ap3 y.plan.length cp3, .bool y.dead]).heap[b0]? = some (.cells #[.slice ao3 n3 cs3, .slice al3 y.loose.length cl3, .int .i64 (y.made : Int), .slice ap3 y.plan.length cp3, .bool y.dead] 30 (0, 0))) := setRow_heap _ _ _ _ _ _ RA3.out
  have RB4 : Hid ((W3.setRow b0 #[.slice ao3 n3 cs3, .slice al3 y.loose.length cl3, .int .i64 (y.made : Int), .slice ap3 y.plan.length cp3, .bool y.dead]).heap[b0 + 1]? = some (.cells (dcs (.slice none 0 0) (.slice none 0 0) 0 (.slice none 0 0) false) 30 (0, 0))) := (setRow_other _ _ _ _ (by omega)).trans RB3.out
  have F4 : Fr K2 W3 (W3.setRow b0 #[.slice ao3 n3 cs3, .slice al3 y.loose.length cl3, .int .i64 (y.made : Int), .slice ap3 y.plan.length cp3, .bool y.dead]) := Fr.setRow W3 (HKo.out b0 (Nat.le_refl _) (by omega)) _
  have D4 := hide (D3.out.write F4)
  have HK4 : Hid (∀ g, K2 g → g < (W3.setRow b0 #[.slice ao3 n3 cs3, .slice al3 y.loose.length cl3, .int .i64 (y.made : Int), .slice ap3 y.plan.length cp3, .bool y.dead]).heap.size) := fun q hq => Nat.lt_of_lt_of_le (Nat.lt_of_lt_of_le (HK.out q hq) B3.out.size) F4.size
  have BW : Hid (Below w.heap.size w (W3.setRow b0 #[.slice ao3 n3 cs3, .slice al3 y.loose.length cl3, .int .i64 (y.made : Int), .slice ap3 y.plan.length cp3, .bool y.dead])) := by
    have h1 := HB.out
    rw [← hgb] at h1
    exact below_setRow (below_next h1 B3.out) (by omega) _
  clear F4
  generalize W3.setRow b0 #[.slice ao3 n3 cs3, .slice al3 y.loose.length cl3, .int .i64 (y.made : Int), .slice ap3 y.plan.length cp3, .bool y.dead] = W4 at *
  go_wp2_with ((with_reducible refine at_list ?_); first | refine wpList_loadA ADd rfl _ rfl b0 rfl _ rfl _ R4.out ?_ | refine wpList_storeA ADd rfl _ _ rfl (b0 + 1) _ (by rfl) (by simp [Value.oneCell']) rfl rfl _ (by rfl) _ RB4.out ?_)
  refine bodyPost_ret (resA2 ADd Try.results19 _ _ (b0 + 1) 30 _ rfl (by rfl) (setRow_heap _ _ _ _ _ _ RB4.out) _ (by rfl)) rfl ⟨_, rfl, ⟨_, _, _, S3, rfl, (D4.out.write (Fr.setRow (S := K2) W4 (HKo.out (b0 + 1) (by omega) (by omega)) _)).mono HKn.out⟩, ?_⟩
  have h5 := BW.out
  first | exact below_setRow h5 (by omega) _ | (rw [hgb] at h5; exact below_setRow h5 (by omega) _) | (rw [← hgb] at h5; exact below_setRow h5 (by omega) _)
theorem rsync_ok (hv : isD K w v x) (hV : Vd x) (hK : ∀ g, K g → g < w.heap.size) (hP : okP x.plan) (hz : x.plan.length * 32 ≤ 140737488355328) (hd : x.dead = false) (hs2 : stS x true = none) : Calls Try.prog 19 #[v] w fun e w' => ∃ v', e = .returned (.tuple #[v', .int .i64 0]) ∧ isD K w' v' (syC x) ∧ Below w.heap.size w w' := by
  obtain ⟨ao, n, cs, al, cl, ap, cp, rfl⟩ := hv.form
  have s1 : (w.alloc (.cells #[.slice ao n cs, .slice al x.loose.length cl, .int .i64 (x.made : Int), .slice ap x.plan.length cp, .bool x.dead] 30)).heap.size = w.heap.size + 1 := by simp
  have r1 := (Below.heap_alloc _ (.cells (dcs (.slice none 0 0) (.slice none 0 0) 0 (.slice none 0 0) false) 30) w.heap.size (by rw [s1]; omega)).trans (heap_alloc_last w (.cells #[.slice ao n cs, .slice al x.loose.length cl, .int .i64 (x.made : Int), .slice ap x.plan.length cp, .bool x.dead] 30))
  have r2 := heap_alloc_last (w.alloc (.cells #[.slice ao n cs, .slice al x.loose.length cl, .int .i64 (x.made : Int), .slice ap x.plan.length cp, .bool x.dead] 30)) (.cells (dcs (.slice none 0 0) (.slice none 0 0) 0 (.slice none 0 0) false) 30)
  rw [s1] at r2
  have hB : Below w.heap.size w ((w.alloc (.cells #[.slice ao n cs, .slice al x.loose.length cl, .int .i64 (x.made : Int), .slice ap x.plan.length cp, .bool x.dead] 30)).alloc (.cells (dcs (.slice none 0 0) (.slice none 0 0) 0 (.slice none 0 0) false) 30)) := ((Below.refl w.heap.size w).alloc (Nat.le_refl _) _).alloc (by rw [s1]; omega) _
  have HB := hide hB
  have R1 := hide r1
  have R2 := hide r2
  have H1 := hide (hv.up hB)
  have HK : Hid (∀ g, grow K w ((w.alloc (.cells #[.slice ao n cs, .slice al x.loose.length cl, .int .i64 (x.made : Int), .slice ap x.plan.length cp, .bool x.dead] 30)).alloc (.cells (dcs (.slice none 0 0) (.slice none 0 0) 0 (.slice none 0 0) false) 30)) g → g < ((w.alloc (.cells #[.slice ao n cs, .slice al x.loose.length cl, .int .i64 (x.made : Int), .slice ap x.plan.length cp, .bool x.dead] 30)).alloc (.cells (dcs (.slice none 0 0) (.slice none 0 0) 0 (.slice none 0 0) false) 30)).heap.size) := grow_lt hK hB.size
  have HKn : Hid (∀ g, K g → grow K w ((w.alloc (.cells #[.slice ao n cs, .slice al x.loose.length cl, .int .i64 (x.made : Int), .slice ap x.plan.length cp, .bool x.dead] 30)).alloc (.cells (dcs (.slice none 0 0) (.slice none 0 0) 0 (.slice none 0 0) false) 30)) g) := fun g hg => .inl hg
  have HKo : Hid (∀ g, w.heap.size ≤ g → g < w.heap.size + 2 → grow K w ((w.alloc (.cells #[.slice ao n cs, .slice al x.loose.length cl, .int .i64 (x.made : Int), .slice ap x.plan.length cp, .bool x.dead] 30)).alloc (.cells (dcs (.slice none 0 0) (.slice none 0 0) 0 (.slice none 0 0) false) 30)) g) := fun g h1 h2 => .inr ⟨h1, by simp; omega⟩
  have HVd := hide hV
  have HDD := hide hd
  have HPP := hide (And.intro hP hz)
  have HS := hide hs2
  clear hB r1 r2 hv hV hK hd hP hz hs2
  generalize grow K w ((w.alloc (.cells #[.slice ao n cs, .slice al x.loose.length cl, .int .i64 (x.made : Int), .slice ap x.plan.length cp, .bool x.dead] 30)).alloc (.cells (dcs (.slice none 0 0) (.slice none 0 0) 0 (.slice none 0 0) false) 30)) = K2 at *
  go_enter Try.func19, Try.ntmps19
  go_upto_region 1 with ((with_reducible refine at_list ?_); first | refine wpList_boxA rfl _ rfl _ rfl ?_ | refine wpList_allocA ADd rfl rfl ?_)
  try rw [s1]
  clear s1
  generalize ((w.alloc (.cells #[.slice ao n cs, .slice al x.loose.length cl, .int .i64 (x.made : Int), .slice ap x.plan.length cp, .bool x.dead] 30)).alloc (.cells (dcs (.slice none 0 0) (.slice none 0 0) 0 (.slice none 0 0) false) 30)) = W1 at *
  generalize hgb : w.heap.size = b0 at *
  have d4 : W1.cell? ⟨b0, 4, none⟩ = some (.bool x.dead) := by rw [cell_of_row _ _ _ _ _ _ R1.out]; rfl
  rw [HDD.out] at d4
  go_upto_region 4 with (first | ((with_reducible refine at_list ?_); first | refine wpList_loadA ADd rfl _ rfl b0 rfl _ rfl _ R1.out ?_ | refine wpList_storeA ADd rfl _ _ rfl b0 _ (by rfl) (by simp [Value.oneCell']) rfl rfl _ (by rfl) _ RA3.out ?_) | (go_at_call 42; refine (rstrikes_any K2 x _ true _ H1.out HVd.out HPP.out.1 HPP.out.2 HDD.out HK.out).mono ?_; rintro e W3 ⟨v3, rfl, d3, b3⟩; rw [HS.out] at d3 ⊢; obtain ⟨ao3, n3, cs3, al3, cl3, ap3, cp3, S3, e3, dd3⟩ := dcs_form d3; subst e3; have D3 := hide dd3; have B3 := hide b3; have RA3 := hide ((b3.block _ (lt_heap R1.out)).trans R1.out); have RB3 := hide ((b3.block _ (lt_heap R2.out)).trans R2.out); clear d3 dd3 b3))
  try simp only [Act.put, List.setIfInBounds_toArray, List.set_cons_succ, List.set_cons_zero]
  have R4 : Hid ((W3.setRow b0 #[.slice ao3 n3 cs3, .slice al3 x.loose.length cl3, .int .i64 (x.made : Int), .slice ap3 x.plan.length cp3, .bool x.dead]).heap[b0]? = some (.cells #[.slice ao3 n3 cs3, .slice al3 x.loose.length cl3, .int .i64 (x.made : Int), .slice ap3 x.plan.length cp3, .bool x.dead] 30 (0, 0))) := setRow_heap _ _ _ _ _ _ RA3.out
  have RB4 : Hid ((W3.setRow b0 #[.slice ao3 n3 cs3, .slice al3 x.loose.length cl3, .int .i64 (x.made : Int), .slice ap3 x.plan.length cp3, .bool x.dead]).heap[b0 + 1]? = some (.cells (dcs (.slice none 0 0) (.slice none 0 0) 0 (.slice none 0 0) false) 30 (0, 0))) := (setRow_other _ _ _ _ (by omega)).trans RB3.out
  have F4 : Fr K2 W3 (W3.setRow b0 #[.slice ao3 n3 cs3, .slice al3 x.loose.length cl3, .int .i64 (x.made : Int), .slice ap3 x.plan.length cp3, .bool x.dead]) := Fr.setRow W3 (HKo.out b0 (Nat.le_refl _) (by omega)) _
  have D4 := hide (D3.out.write F4)
  have HK4 : Hid (∀ g, K2 g → g < (W3.setRow b0 #[.slice ao3 n3 cs3, .slice al3 x.loose.length cl3, .int .i64 (x.made : Int), .slice ap3 x.plan.length cp3, .bool x.dead]).heap.size) := fun q hq => Nat.lt_of_lt_of_le (Nat.lt_of_lt_of_le (HK.out q hq) B3.out.size) F4.size
  have BW : Hid (Below w.heap.size w (W3.setRow b0 #[.slice ao3 n3 cs3, .slice al3 x.loose.length cl3, .int .i64 (x.made : Int), .slice ap3 x.plan.length cp3, .bool x.dead])) := by
    have h1 := HB.out
    rw [← hgb] at h1
    exact below_setRow (below_next h1 B3.out) (by omega) _
  clear F4
  generalize W3.setRow b0 #[.slice ao3 n3 cs3, .slice al3 x.loose.length cl3, .int .i64 (x.made : Int), .slice ap3 x.plan.length cp3, .bool x.dead] = W4 at *
  have DI : Hid (isD K2 W4 (.agg #[.slice ao3 n3 cs3, .slice al3 x.loose.length cl3, .int .i64 (x.made : Int), .slice ap3 x.plan.length cp3, .bool x.dead]) x) := ⟨_, _, _, S3, rfl, D4.out⟩
  clear R1 R2 RA3 RB3
  go_upto_region 7 with (first | ((with_reducible refine at_list ?_); refine wpList_loadA ADd rfl _ rfl b0 rfl _ rfl _ R4.out ?_) | (go_at_call 24; refine (rfiles_any K2 x _ _ DI.out HVd.out HK4.out).mono ?_; rintro e W5 ⟨v5, L5, rfl, k5, r5, b5⟩; have K5 := hide k5; have Q5 := hide r5; have B5 := hide b5; have RA5 := hide ((b5.block _ (lt_heap R4.out)).trans R4.out); have RB5 := hide ((b5.block _ (lt_heap RB4.out)).trans RB4.out); clear k5 r5 b5; obtain ⟨a5, c5, e5⟩ := K5.out.form; subst e5; have c0 : W5.cell? ⟨b0, 0, none⟩ = some (.slice ao3 n3 cs3) := (by rw [cell_of_row _ _ _ _ _ _ RA5.out]; rfl); have c1 : W5.cell? ⟨b0, 1, none⟩ = some (.slice al3 x.loose.length cl3) := (by rw [cell_of_row _ _ _ _ _ _ RA5.out]; rfl); have f0 := frozen_of_row _ _ 0 _ _ RA5.out; have f1 := frozen_of_row _ _ 1 _ _ RA5.out))
  clear c0 c1 f0 f1
  have R6 : Hid (((W5.setCell ⟨b0, 0, none⟩ (.slice a5 L5.length c5)).setCell ⟨b0, 1, none⟩ (.slice none 0 0)).heap[b0]? = some (.cells #[.slice a5 L5.length c5, .slice none 0 0, .int .i64 (x.made : Int), .slice ap3 x.plan.length cp3, .bool x.dead] 30 (0, 0))) := heap_setCell_same _ b0 1 _ _ _ (heap_setCell_same W5 b0 0 _ _ _ RA5.out)
  have F6 : Fr K2 W5 ((W5.setCell ⟨b0, 0, none⟩ (.slice a5 L5.length c5)).setCell ⟨b0, 1, none⟩ (.slice none 0 0)) := (Fr.setCell _ (HKo.out b0 (Nat.le_refl _) (by omega)) _).trans' (Fr.setCell _ (HKo.out b0 (Nat.le_refl _) (by omega)) _)
  have RB6 : Hid (((W5.setCell ⟨b0, 0, none⟩ (.slice a5 L5.length c5)).setCell ⟨b0, 1, none⟩ (.slice none 0 0)).heap[b0 + 1]? = some (.cells (dcs (.slice none 0 0) (.slice none 0 0) 0 (.slice none 0 0) false) 30 (0, 0))) := by
    show _ = _
    rw [Below.heap_setCell _ _ _ _ (show b0 + 1 ≠ b0 by omega), Below.heap_setCell _ _ _ _ (show b0 + 1 ≠ b0 by omega)]
    exact RB5.out
  have D6 : Hid (RD K2 ((W5.setCell ⟨b0, 0, none⟩ (.slice a5 L5.length c5)).setCell ⟨b0, 1, none⟩ (.slice none 0 0)) (.slice a5 L5.length c5) (.slice none 0 0) (.slice ap3 x.plan.length cp3) L5 (syC x)) := by
    refine ⟨K5.out.write F6, ?_, LXK.nil _, (D4.out.plan.below B5.out).write F6⟩
    have := Q5.out
    rw [HVd.out.now] at this
    exact this
  have BX : Hid (Below w.heap.size w ((W5.setCell ⟨b0, 0, none⟩ (.slice a5 L5.length c5)).setCell ⟨b0, 1, none⟩ (.slice none 0 0))) := ((below_next BW.out B5.out).setCell (show w.heap.size ≤ b0 by omega) _).setCell (show w.heap.size ≤ b0 by omega) _
  clear F6 RA5 RB5 R4 RB4 D4
  generalize (W5.setCell ⟨b0, 0, none⟩ (.slice a5 L5.length c5)).setCell ⟨b0, 1, none⟩ (.slice none 0 0) = W6 at *
  go_wp2_with ((with_reducible refine at_list ?_); first | refine wpList_loadA ADd rfl _ rfl b0 rfl _ (by rfl) _ R6.out ?_ | refine wpList_storeA ADd rfl _ _ rfl (b0 + 1) _ (by rfl) (by simp [Value.oneCell']) rfl rfl _ (by rfl) _ RB6.out ?_)
  refine bodyPost_ret (resA2 ADd Try.results19 _ _ (b0 + 1) 30 _ rfl (by rfl) (setRow_heap _ _ _ _ _ _ RB6.out) _ (by rfl)) rfl ⟨_, rfl, ⟨_, _, _, L5, rfl, (D6.out.write (Fr.setRow (S := K2) W6 (HKo.out (b0 + 1) (by omega) (by omega)) _)).mono HKn.out⟩, ?_⟩
  have h5 := BX.out
  first | exact below_setRow h5 (by omega) _ | (rw [hgb] at h5; exact below_setRow h5 (by omega) _) | (rw [← hgb] at h5; exact below_setRow h5 (by omega) _)
theorem rsync_any (hv : isD K w v x) (hV : Vd x) (hK : ∀ g, K g → g < w.heap.size) (hP : okP x.plan) (hz : x.plan.length * 32 ≤ 140737488355328) : Calls Try.prog 19 #[v] w fun e w' => ∃ v', e = .returned (.tuple #[v', .int .i64 (snE x)]) ∧ isD K w' v' (snS x) ∧ Below w.heap.size w w' := by
  unfold snE snS stE
  cases hd : x.dead
  · cases hs2 : stS x true with
    | none => exact rsync_ok hv hV hK hP hz hd hs2
    | some y => exact rsync_hit hv hV hK hP hz hd y hs2
  · exact rsync_dead hv hV hK hd
end
end Go.Proofs.Ythnfpdmhjennlaa
