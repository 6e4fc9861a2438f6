/- The document's disk: wrong, in one; a change that may be made. The document's disk: Crash. -/
import Derived.Test.YthnfpdmhjennlaaV25
namespace Go.Proofs.Ythnfpdmhjennlaa
open Go.RowKit
open Go.Deep
open Go.Lib
set_option linter.unusedVariables false
section
variable {K : Nat → Prop} {x : St} {v : Value} {w : World}
theorem rwrong_any (kd : Nat) (nm tn : ByteArray) (k : Int) (s : ByteArray) (hv : isD K w v x) (hV : Vd x) (hK : ∀ g, K g → g < w.heap.size) (hkd : kd ≤ 3) (hm : nm.size ≤ maxLen) (htn : tn.size ≤ maxLen) (hs : s.size ≤ maxLen) (hk1 : -9223372036854775808 ≤ k) (hk2 : k < 9223372036854775808) : Calls Try.prog 41 #[v, .agg #[.int .i64 (kd : Int), .string nm, .string tn, .int .i64 k, .string s]] w fun e w' => e = .returned (.int .i64 (rwE x kd nm tn k s)) ∧ Below w.heap.size w w' := by
  have hcs : kd = 0 ∨ kd = 1 ∨ kd = 2 ∨ kd = 3 := by omega
  cases hd : x.dead
  · cases hN : isName nm.data.toList
    · have e : rwE x kd nm tn k s = 70 := by
        rcases hcs with rfl | rfl | rfl | rfl <;> simp [rwE, wrE, ctE, mvE, fnd, rdy, hd, hN]
      rw [e]
      exact rw_name kd nm tn k s hv hV hK hm htn hs hk1 hk2 hd hN
    · rcases hcs with rfl | rfl | rfl | rfl
      · by_cases h1 : k < 0
        · have e : rwE x 0 nm tn k s = 1 := by simp [rwE, wrE, rdy, hd, hN, h1]
          rw [e]
          exact rw_0neg nm tn k s hv hV hK hm htn hs hk1 hk2 hd hN h1
        · by_cases h2 : ((x.now.at (ls nm)).length : Int) < k
          · have e : rwE x 0 nm tn k s = 1 := by simp [rwE, wrE, rdy, hd, hN, h2]
            rw [e]
            exact rw_0far nm tn k s hv hV hK hm htn hs hk1 hk2 hd hN ⟨by omega, h2⟩
          · by_cases h3 : 16777216 - k < (s.size : Int)
            · have e : rwE x 0 nm tn k s = 71 := by simp [rwE, wrE, rdy, hd, hN, h1, h2, h3]
              rw [e]
              exact rw_0big nm tn k s hv hV hK hm htn hs hk1 hk2 hd hN ⟨by omega, by omega⟩ h3
            · cases hg : (x.now.get (ls nm)).isSome
              · by_cases h4 : 64 ≤ x.now.n
                · have e : rwE x 0 nm tn k s = 71 := by simp [rwE, wrE, rdy, hd, hN, h1, h2, h4, hg]
                  rw [e]
                  exact rw_0full nm tn k s hv hV hK hm htn hs hk1 hk2 hd hN ⟨by omega, by omega⟩ h3 hg h4
                · have e : rwE x 0 nm tn k s = 0 := by simp [rwE, wrE, rdy, hd, hN, h1, h2, h3, h4, hg]
                  rw [e]
                  exact rw_0new nm tn k s hv hV hK hm htn hs hk1 hk2 hd hN ⟨by omega, by omega⟩ h3 hg (by omega)
              · have e : rwE x 0 nm tn k s = 0 := by simp [rwE, wrE, rdy, hd, hN, h1, h2, h3, hg]
                rw [e]
                exact rw_0ok nm tn k s hv hV hK hm htn hs hk1 hk2 hd hN ⟨by omega, by omega⟩ h3 hg
      · cases hg : (x.now.get (ls nm)).isSome
        · have e : rwE x 1 nm tn k s = 2 := by simp [rwE, ctE, fnd, rdy, hd, hN, hg]
          rw [e]
          exact rw_1no nm tn k s hv hV hK hm htn hs hk1 hk2 hd hN hg
        · by_cases h1 : k < 0
          · have e : rwE x 1 nm tn k s = 1 := by simp [rwE, ctE, fnd, rdy, hd, hN, hg, h1]
            rw [e]
            exact rw_1neg nm tn k s hv hV hK hm htn hs hk1 hk2 hd hN hg h1
          · by_cases h2 : ((x.now.at (ls nm)).length : Int) < k
            · have e : rwE x 1 nm tn k s = 1 := by simp [rwE, ctE, fnd, rdy, hd, hN, hg, h2]
              rw [e]
              exact rw_1far nm tn k s hv hV hK hm htn hs hk1 hk2 hd hN hg ⟨by omega, h2⟩
            · have e : rwE x 1 nm tn k s = 0 := by simp [rwE, ctE, fnd, rdy, hd, hN, hg, h1, h2]
              rw [e]
              exact rw_1ok nm tn k s hv hV hK hm htn hs hk1 hk2 hd hN hg ⟨by omega, by omega⟩
      · cases hT : isName tn.data.toList
        · have e : rwE x 2 nm tn k s = 70 := by simp [rwE, mvE, rdy, hd, hN, hT]
          rw [e]
          exact rw_to nm tn k s hv hV hK hm htn hs hk1 hk2 hd hN hT
        · cases hg : (x.now.get (ls nm)).isSome
          · have e : rwE x 2 nm tn k s = 2 := by simp [rwE, mvE, fnd, rdy, hd, hN, hT, hg]
            rw [e]
            exact rw_2no nm tn k s hv hV hK hm htn hs hk1 hk2 hd hN hT hg
          · have e : rwE x 2 nm tn k s = 0 := by simp [rwE, mvE, fnd, rdy, hd, hN, hT, hg]
            rw [e]
            exact rw_2ok nm tn k s hv hV hK hm htn hs hk1 hk2 hd hN hT hg
      · cases hg : (x.now.get (ls nm)).isSome
        · have e : rwE x 3 nm tn k s = 2 := by simp [rwE, fnd, rdy, hd, hN, hg]
          rw [e]
          exact rw_3no nm tn k s hv hV hK hm htn hs hk1 hk2 hd hN hg
        · have e : rwE x 3 nm tn k s = 0 := by simp [rwE, fnd, rdy, hd, hN, hg]
          rw [e]
          exact rw_3ok nm tn k s hv hV hK hm htn hs hk1 hk2 hd hN hg
  · have e : rwE x kd nm tn k s = 7 := by
      rcases hcs with rfl | rfl | rfl | rfl <;> simp [rwE, wrE, ctE, mvE, fnd, rdy, hd]
    rw [e]
    exact rw_dead kd nm tn k s hv hV hK hm htn hs hk1 hk2 hd
end
theorem Rep.put_ex {L : List Fi} {f : FS} (h : Rep L f) (nm s : ByteArray) : ∃ L', Rep L' (f.put (ls nm) (ls s)) := by
  refine ⟨_, h.ins nm s ((woL L nm).findIdx fun y => !decide (ls y.nm < ls nm)) List.findIdx_le_length (fun y hy => ?_) (fun c => ?_)⟩
  · rw [List.mem_take_iff_getElem] at hy
    obtain ⟨j, hj, rfl⟩ := hy
    have := List.not_of_lt_findIdx (show j < (woL L nm).findIdx (fun y => !decide (ls y.nm < ls nm)) by omega)
    simpa using this
  · have := List.findIdx_getElem (w := c)
    simpa using this
theorem Rep.do_ex {L : List Fi} {f : FS} (h : Rep L f) (c : Ch) : ∃ L', Rep L' (doC f c) := by
  unfold doC
  have hl : ∀ l : List UInt8, ls ⟨l.toArray⟩ = l := fun l => by simp [ls]
  split
  · rw [← hl (wr8 (f.at (ls c.name)) c.pos (ls c.s))]
    exact h.put_ex _ _
  · split
    · rw [← hl ((f.at (ls c.name)).take c.pos)]
      exact h.put_ex _ _
    · split
      · rw [← hl (f.at (ls c.name))]
        exact (h.wo c.name).put_ex _ _
      · exact ⟨_, h.wo c.name⟩
theorem Rep.doL_ex : ∀ (l : List Ch) {L : List Fi} {f : FS}, Rep L f → ∃ L', Rep L' (doL f l)
  | [], L, f, h => ⟨L, h⟩
  | c :: r, L, f, h => by
    obtain ⟨L1, h1⟩ := h.do_ex c
    exact Rep.doL_ex r h1
theorem isD.rep {K : Nat → Prop} {w : World} {v : Value} {x : St} (h : isD K w v x) (hV : Vd x) : ∃ L, Rep L x.now := by
  obtain ⟨_, _, _, S, _, h⟩ := h
  rw [hV.now]
  exact Rep.doL_ex _ h.rep
theorem Rep.some_n {L : List Fi} {f : FS} (h : Rep L f) {k : List UInt8} (hk : (f.get k).isSome = true) : 1 ≤ f.n := by
  rw [h.n]
  rw [h.get] at hk
  rcases L with _ | ⟨y, r⟩
  · cases hk
  · simp
/-- A change that is not wrong may be made. -/
theorem rw_okD {x : St} (hV : Vd x) (hL : ∃ L, Rep L x.now) {kd : Nat} (hkd : kd ≤ 3) {nm tn s : ByteArray} {k : Nat} (h : rwE x kd nm tn k s = 0) (hz : kd ≠ 2 → tn = ⟨#[]⟩) (hsz : kd ≠ 0 → s = ⟨#[]⟩) (hk0 : 1 < kd → k = 0) : x.dead = false ∧ okD x.now ⟨kd, nm, tn, k, s⟩ := by
  have hcs : kd = 0 ∨ kd = 1 ∨ kd = 2 ∨ kd = 3 := by omega
  have hb := hV.bd2
  have no : ∀ n : Int, n ≠ 0 → rwE x kd nm tn k s ≠ n := fun n hn e => hn (e.symm.trans h)
  cases hd : x.dead
  · refine ⟨rfl, ?_⟩
    cases hN : isName nm.data.toList
    · exact absurd (show rwE x kd nm tn k s = 70 by rcases hcs with rfl | rfl | rfl | rfl <;> simp [rwE, wrE, ctE, mvE, fnd, rdy, hd, hN]) (no 70 (by decide))
    · rcases hcs with rfl | rfl | rfl | rfl
      · obtain rfl := hz (by decide)
        by_cases h2 : ((x.now.at (ls nm)).length : Int) < (k : Int)
        · exact absurd (show rwE x 0 nm ⟨#[]⟩ k s = 1 by simp only [rwE, wrE, rdy, hd]; simp [hN]; omega) (no 1 (by decide))
        · by_cases h3 : 16777216 - (k : Int) < (s.size : Int)
          · exact absurd (show rwE x 0 nm ⟨#[]⟩ k s = 71 by simp only [rwE, wrE, rdy, hd]; simp [hN]; omega) (no 71 (by decide))
          · refine wr_ok hb hN (by omega) (by omega) ?_
            cases hg : (x.now.get (ls nm)).isSome
            · by_cases h4 : 64 ≤ x.now.n
              · exact absurd (show rwE x 0 nm ⟨#[]⟩ k s = 71 by simp only [rwE, wrE, rdy, hd, hg]; simp [hN]; omega) (no 71 (by decide))
              · exact .inr (by omega)
            · exact .inl rfl
      · obtain rfl := hz (by decide)
        obtain rfl := hsz (by decide)
        cases hg : (x.now.get (ls nm)).isSome
        · exact absurd (show rwE x 1 nm ⟨#[]⟩ k ⟨#[]⟩ = 2 by simp [rwE, ctE, fnd, rdy, hd, hN, hg]) (no 2 (by decide))
        · by_cases h2 : ((x.now.at (ls nm)).length : Int) < (k : Int)
          · exact absurd (show rwE x 1 nm ⟨#[]⟩ k ⟨#[]⟩ = 1 by simp only [rwE, ctE, fnd, rdy, hd, hg]; simp [hN]; omega) (no 1 (by decide))
          · exact ct_ok hb hN (by omega) hg
      · obtain rfl := hsz (by decide)
        obtain rfl := hk0 (by decide)
        cases hT : isName tn.data.toList
        · exact absurd (show rwE x 2 nm tn (0 : Nat) ⟨#[]⟩ = 70 by simp [rwE, mvE, rdy, hd, hN, hT]) (no 70 (by decide))
        · cases hg : (x.now.get (ls nm)).isSome
          · exact absurd (show rwE x 2 nm tn (0 : Nat) ⟨#[]⟩ = 2 by simp [rwE, mvE, fnd, rdy, hd, hN, hT, hg]) (no 2 (by decide))
          · obtain ⟨L, hL⟩ := hL
            exact mv_ok hb hN hT hg (hL.some_n hg)
      · obtain rfl := hz (by decide)
        obtain rfl := hsz (by decide)
        obtain rfl := hk0 (by decide)
        exact rm_ok hb hN
  · exact absurd (show rwE x kd nm tn k s = 7 by rcases hcs with rfl | rfl | rfl | rfl <;> simp [rwE, wrE, ctE, mvE, fnd, rdy, hd]) (no 7 (by decide))
end Go.Proofs.Ythnfpdmhjennlaa
namespace Go.Proofs.Ythnfpdmhjennlaa
open Go.RowKit
open Go.Deep
open Go.Lib
set_option linter.unusedVariables false
section
variable {α : Type} {E : Ek α} {K K' : Nat → Prop} {w w' : World} {v : Value} {L : List α}
theorem LXK.write (h : LXK E K w v L) (f : Fr K w w') : LXK E K w' v L := fun w2 a => h w2 ⟨Nat.le_trans f.size a.1, fun k hk hn => (a.2 k (Nat.lt_of_lt_of_le hk f.size) hn).trans (f.block k hk hn)⟩
theorem LXK.up (h : LXK E K w v L) (b : Below w.heap.size w w') : LXK E (grow K w w') w' v L := h.fr (Fr.of_below b)
end
theorem RD.up {K : Nat → Prop} {w w' : World} {vs vl vp : Value} {S : List Fi} {x : St} (h : RD K w vs vl vp S x) (b : Below w.heap.size w w') : RD (grow K w w') w' vs vl vp S x := ⟨h.sure.up b, h.rep, h.loose.up b, h.plan.up b⟩
theorem RD.write {K : Nat → Prop} {w w' : World} {vs vl vp : Value} {S : List Fi} {x : St} (h : RD K w vs vl vp S x) (f : Fr K w w') : RD K w' vs vl vp S x := ⟨h.sure.write f, h.rep, h.loose.write f, h.plan.write f⟩
theorem RD.mono {K K' : Nat → Prop} {w : World} {vs vl vp : Value} {S : List Fi} {x : St} (h : RD K w vs vl vp S x) (hs : ∀ g, K' g → K g) : RD K' w vs vl vp S x := ⟨h.sure.mono hs, h.rep, h.loose.mono hs, h.plan.mono hs⟩
theorem isD.up {K : Nat → Prop} {w w' : World} {v : Value} {x : St} (h : isD K w v x) (b : Below w.heap.size w w') : isD (grow K w w') w' v x := by
  obtain ⟨vs, vl, vp, S, e, h⟩ := h
  exact ⟨vs, vl, vp, S, e, h.up b⟩
theorem isD.write {K : Nat → Prop} {w w' : World} {v : Value} {x : St} (h : isD K w v x) (f : Fr K w w') : isD K w' v x := by
  obtain ⟨vs, vl, vp, S, e, h⟩ := h
  exact ⟨vs, vl, vp, S, e, h.write f⟩
theorem isD.mono {K K' : Nat → Prop} {w : World} {v : Value} {x : St} (h : isD K w v x) (hs : ∀ g, K' g → K g) : isD K' w v x := by
  obtain ⟨vs, vl, vp, S, e, h⟩ := h
  exact ⟨vs, vl, vp, S, e, h.mono hs⟩
theorem Fr.setRow {S : Nat → Prop} (w : World) {g : Nat} (hg : S g) (cs : Array Value) : Fr S w (w.setRow g cs) := ⟨rfl, rfl, rfl, by simp, fun k _ hn => setRow_other w g k cs (fun e => hn (by rw [e]; exact hg))⟩
theorem flS_full {x : St} {keep torn : Int} (h : kp x keep = x.loose.length) : flS x keep torn = doL x.sure (x.loose.take (kp x keep)) := by
  unfold flS
  rw [List.getElem?_eq_none (by omega)]
theorem flS_no {x : St} {keep torn : Int} {c : Ch} (h : x.loose[kp x keep]? = some c) (ht : tornB c torn = false) : flS x keep torn = doL x.sure (x.loose.take (kp x keep)) := by
  unfold flS
  rw [h]
  simp [ht]
theorem flS_yes {x : St} {keep torn : Int} {c : Ch} (h : x.loose[kp x keep]? = some c) (ht : tornB c torn = true) : flS x keep torn = doC (doL x.sure (x.loose.take (kp x keep))) (tornC c torn) := by
  unfold flS
  rw [h]
  simp [ht]
section
variable {w : World} {o : Oper} {a : Act}
theorem ex_slF (x y : Operand) {t : TypeId} (ho : o.op = .slice t x none (some y) none) {vx vy r : Value} (hx : a.eval x = vx) (hy : a.eval y = vy) (hr : (Instr.sliceAt t vx none (some vy) none).run Try.prog w = .ok r w) : (execOp a.eval o).run Try.prog w = .ok (.value r) w := by
  unfold execOp
  simp only [ho, hx, hy, Option.map_some, Option.map_none, hr, Sem.run_bind, Result.andThen_ok, Sem.run_pure]
end
section
set_option maxRecDepth 10000
set_option maxHeartbeats 8000000
theorem rcrash_dead (K : Nat → Prop) (x : St) (v : Value) (keep torn : Int) (w : World) (hv : isD K w v x) (hd : x.dead = true) : Calls Try.prog 20 #[v, .int .i64 keep, .int .i64 torn] w fun e w' => e = .returned v ∧ Below w.heap.size w w' := by
  obtain ⟨ao, n, cs, al, cl, ap, cp, rfl⟩ := hv.form
  have s1 : (w.alloc (.cells #[.slice ao n cs, .slice al x.loose.length cl, .int .i64 (x.made : Int), .slice ap x.plan.length cp, .bool x.dead] 30)).heap.size = w.heap.size + 1 := by simp
  have r1 := (Below.heap_alloc _ (.cells (dcs (.slice none 0 0) (.slice none 0 0) 0 (.slice none 0 0) false) 30) w.heap.size (by rw [s1]; omega)).trans (heap_alloc_last w (.cells #[.slice ao n cs, .slice al x.loose.length cl, .int .i64 (x.made : Int), .slice ap x.plan.length cp, .bool x.dead] 30))
  have r2 := heap_alloc_last (w.alloc (.cells #[.slice ao n cs, .slice al x.loose.length cl, .int .i64 (x.made : Int), .slice ap x.plan.length cp, .bool x.dead] 30)) (.cells (dcs (.slice none 0 0) (.slice none 0 0) 0 (.slice none 0 0) false) 30)
  rw [s1] at r2
  have hB : Below w.heap.size w ((w.alloc (.cells #[.slice ao n cs, .slice al x.loose.length cl, .int .i64 (x.made : Int), .slice ap x.plan.length cp, .bool x.dead] 30)).alloc (.cells (dcs (.slice none 0 0) (.slice none 0 0) 0 (.slice none 0 0) false) 30)) := ((Below.refl w.heap.size w).alloc (Nat.le_refl _) _).alloc (by rw [s1]; omega) _
  have HB := hide hB
  have R1 := hide r1
  have R2 := hide r2
  have HDD := hide hd
  clear hB r1 r2 hv hd
  go_enter Try.func20, Try.ntmps20
  go_upto_region 1 with ((with_reducible refine at_list ?_); first | refine wpList_boxA rfl _ rfl _ rfl ?_ | refine wpList_allocA ADd rfl rfl ?_)
  try rw [s1]
  clear s1
  generalize (w.alloc (.cells #[.slice ao n cs, .slice al x.loose.length cl, .int .i64 (x.made : Int), .slice ap x.plan.length cp, .bool x.dead] 30)).alloc (.cells (dcs (.slice none 0 0) (.slice none 0 0) 0 (.slice none 0 0) false) 30) = W1 at *
  have d4 : W1.cell? ⟨w.heap.size, 4, none⟩ = some (.bool x.dead) := by rw [cell_of_row _ _ _ _ _ _ R1.out]; rfl
  rw [HDD.out] at d4
  go_wp2_with ((with_reducible refine at_list ?_); first | refine wpList_loadA ADd rfl _ rfl w.heap.size rfl _ rfl _ R1.out ?_ | refine wpList_storeA ADd rfl _ _ rfl (w.heap.size + 1) _ (by rfl) (by simp [Value.oneCell']) rfl rfl _ (by rfl) _ R2.out ?_)
  exact bodyPost_ret (resA ADd Try.results20 _ _ (w.heap.size + 1) 30 _ rfl rfl (setRow_heap _ _ _ _ _ _ R2.out)) rfl ⟨rfl, HB.out.trans (below_setRow (Below.refl _ _) (by omega) _)⟩
end
end Go.Proofs.Ythnfpdmhjennlaa
