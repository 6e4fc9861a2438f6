/- Lists of marks in memory; the contract of the document's meant. Lists of lists, whatever these are; the contract of the document's levels. The contract of the document's levels. The contract of meantLevels. -/
import Derived.Test.YthlaibkdcebekaaDoorNa
import Derived.Test.YthlaibkdcebekaaDoorMo
namespace Go.Proofs.YthlaibkdcebekaaDoor
open Go.RowKit
open Go.Deep
/-- A slice that holds marks. -/
def LB (w : World) (v : Value) (ms : List Bool) : Prop := ∃ ao cap, v = .slice ao ms.length cap ∧ ms.length ≤ cap ∧ ∀ i, i < ms.length → ∃ g off, ao = some ⟨g, off, none⟩ ∧ g < w.heap.size ∧ w.cell? ⟨g, off + i, none⟩ = some (.bool (ms.getD i false))
theorem LB.below {w W : World} {v : Value} {ms : List Bool} (h : LB w v ms) (hb : Below w.heap.size w W) : LB W v ms := by
  obtain ⟨ao, cap, rfl, h2, h3⟩ := h
  refine ⟨ao, cap, rfl, h2, fun i hi => ?_⟩
  obtain ⟨g, off, e, hg, hr⟩ := h3 i hi
  exact ⟨g, off, e, Nat.lt_of_lt_of_le hg hb.size, (hb.cell (p := ⟨g, off + i, none⟩) hg).trans hr⟩
theorem LB.form {w : World} {v : Value} {ms : List Bool} (h : LB w v ms) : ∃ ao cap, v = .slice ao ms.length cap ∧ ms.length ≤ cap := by
  obtain ⟨ao, cap, e, h2, _⟩ := h
  exact ⟨ao, cap, e, h2⟩
theorem LB.base {w : World} {ao : Option Addr} {n cap : Nat} {ms : List Bool} (h : LB w (.slice ao n cap) ms) (h0 : 0 < ms.length) : ∃ g off, ao = some ⟨g, off, none⟩ := by
  obtain ⟨_, _, e, _, h3⟩ := h
  injection e with e1
  obtain ⟨g, off, e2, _⟩ := h3 0 h0
  exact ⟨g, off, e1.trans e2⟩
theorem LB.cell {w : World} {g off n cap : Nat} {ms : List Bool} (h : LB w (.slice (some ⟨g, off, none⟩) n cap) ms) (i : Nat) (hi : i < ms.length) : w.cell? ⟨g, off + i, none⟩ = some (.bool (ms.getD i false)) := by
  obtain ⟨_, _, e, _, h3⟩ := h
  injection e with e1
  subst e1
  obtain ⟨g', off', e2, _, hc⟩ := h3 i hi
  cases e2
  exact hc
theorem mn_true (ms : List Bool) (k p i : Nat) (h1 : p * 2 ^ k ≤ i) (h2 : i < (p + 1) * 2 ^ k) (h : ms.getD i false = true) : mn ms k p = true := by
  unfold mn
  rw [List.any_eq_true]
  rw [Nat.add_mul, Nat.one_mul] at h2
  exact ⟨i - p * 2 ^ k, List.mem_range.2 (by omega), by rw [show p * 2 ^ k + (i - p * 2 ^ k) = i by omega]; exact h⟩
theorem mn_false (ms : List Bool) (k p : Nat) (h : ∀ i, p * 2 ^ k ≤ i → i < (p + 1) * 2 ^ k → ms.getD i false = false) : mn ms k p = false := by
  unfold mn
  rw [List.any_eq_false]
  intro i hi
  have := List.mem_range.1 hi
  rw [h (p * 2 ^ k + i) (by omega) (by rw [Nat.add_mul, Nat.one_mul]; omega)]
  decide
section
set_option maxRecDepth 10000
set_option maxHeartbeats 4000000
theorem rmeant_any (v : Value) (ms : List Bool) (k p : Nat) (w : World) (hL : LB w v ms) (hk : k ≤ 10) (hp : p ≤ 300) (hn : ms.length ≤ 300) : Calls Tryd.prog 36 #[v, .int .i64 (k : Int), .int .i64 (p : Int)] w fun e w' => e = .returned (.bool (mn ms k p)) ∧ w' = w := by
  obtain ⟨ao, cap, rfl, hcap⟩ := hL.form
  have HL := hide hL
  have HN := hide (And.intro hk (And.intro hp hn))
  clear hL hk hp hn hcap
  go_enter Tryd.func36, Tryd.ntmps36
  go_wp2
  go_loop [7, 8] (fun x d => ∃ j : Nat, j ≤ k ∧ d = .int .i64 (j : Int) ∧ x = .int .i64 ((2 ^ j : Nat) : Int)) (fun _ d => (k - intOf d).toNat)
  case atStart => exact ⟨0, Nat.zero_le _, rfl, rfl⟩
  case round =>
    obtain ⟨j, hj, rfl, rfl⟩ := hrel
    have hk := HN.out.1
    have hpw : 2 ^ j ≤ 2 ^ 10 := Nat.pow_le_pow_right (by decide) (by omega)
    have hs : 2 ^ (j + 1) = 2 * 2 ^ j := Nat.pow_succ'
    by_cases hlt : j < k
    · have h1 : (j : Int) < (k : Int) := by omega
      have HS := hide hs
      generalize 2 ^ j = x at *
      have e1 : IntKind.i64.wrap ((x : Int) * 2) = x * 2 := wrapI _ (by omega) (by omega)
      have e2 : IntKind.i64.wrap ((j : Int) + 1) = j + 1 := wrapI _ (by omega) (by omega)
      clear hs
      go_wp2
      go_round
      case rel => exact ⟨j + 1, by omega, by go_num, by rw [HS.out]; congr 1; omega⟩
      case measure => simp [intOf]; omega
    · have h1 : ¬ (j : Int) < (k : Int) := by omega
      obtain rfl : j = k := by omega
      obtain ⟨W, hW⟩ : ∃ W, W = 2 ^ j := ⟨_, rfl⟩
      have hp := HN.out.2.1
      have hn := HN.out.2.2
      have HW := hide hW
      rw [← hW] at hpw ⊢
      have hpW : p * W ≤ 300 * 1024 := Nat.mul_le_mul hp (by simpa using hpw)
      have hpW2 : (p + 1) * W = p * W + W := by rw [Nat.add_mul, Nat.one_mul]
      have hpw3 : W ≤ 1024 := by simpa using hpw
      clear hW hs hpw hlt
      have e1 : IntKind.i64.wrap ((p : Int) * (W : Int)) = ((p * W : Nat) : Int) := by
        have : (p : Int) * (W : Int) = ((p * W : Nat) : Int) := (Int.natCast_mul _ _).symm
        rw [this, wrapI _ (by omega) (by omega)]
      have e2 : IntKind.i64.wrap ((p : Int) + 1) = ((p + 1 : Nat) : Int) := by rw [wrapI _ (by omega) (by omega)]; omega
      have e3 : IntKind.i64.wrap (((p + 1 : Nat) : Int) * (W : Int)) = (((p + 1) * W : Nat) : Int) := by
        have : ((p + 1 : Nat) : Int) * (W : Int) = (((p + 1) * W : Nat) : Int) := (Int.natCast_mul _ _).symm
        rw [this, wrapI _ (by omega) (by omega)]
      obtain ⟨a, ha⟩ : ∃ a, a = p * W := ⟨_, rfl⟩
      obtain ⟨b, hb⟩ : ∃ b, b = (p + 1) * W := ⟨_, rfl⟩
      rw [← ha] at e1 hpW hpW2
      rw [← hb] at e3 hpW2
      have HT : Hid (∀ i, a ≤ i → i < b → ms.getD i false = true → mn ms j p = true) := fun i h1 h2 h => mn_true ms j p i (by rw [← HW.out, ← ha]; exact h1) (by rw [← HW.out, ← hb]; exact h2) h
      have HF : Hid ((∀ i, a ≤ i → i < b → ms.getD i false = false) → mn ms j p = false) := fun h => mn_false ms j p (by rw [← HW.out, ← ha, ← hb]; exact h)
      clear ha hb
      generalize p + 1 = p1 at *
      have HB := hide (And.intro hpW (And.intro hpW2 hpw3))
      clear hpW hpW2 hpw3 hj
      go_wp2
      go_loop [9] (fun d => ∃ i : Nat, a ≤ i ∧ i ≤ b ∧ d = .int .i64 (i : Int) ∧ Hid (∀ x, a ≤ x → x < i → ms.getD x false = false)) (fun d => (b - intOf d).toNat)
      case atStart => exact ⟨a, Nat.le_refl _, by have := HB.out; omega, rfl, fun x h1 h2 => by omega⟩
      case round =>
        clear h1
        obtain ⟨i, hi1, hi2, rfl, HX⟩ := hrel
        have hB := HB.out
        by_cases hb : i < b
        · by_cases hl : i < ms.length
          · obtain ⟨g, off, rfl⟩ := HL.out.base (by omega)
            have c1 := HL.out.cell i hl
            have h1 : (i : Int) < (b : Int) := by omega
            have h2 : (i : Int) < (ms.length : Int) := by omega
            have h3 : (0 : Int) ≤ (i : Int) := by omega
            have e4 : IntKind.i64.wrap ((i : Int) + 1) = i + 1 := wrapI _ (by omega) (by omega)
            obtain ⟨m, hm⟩ : ∃ m, m = ms.getD i false := ⟨_, rfl⟩
            rw [← hm] at c1
            have HM := hide hm
            have HI := hide (And.intro hi1 hb)
            clear hm hl
            cases m
            · have HX2 : Hid (∀ x, a ≤ x → x < i + 1 → ms.getD x false = false) := fun x h1 h2 => by
                by_cases hx : x < i
                · exact HX.out x h1 hx
                · rw [show x = i by omega]
                  exact HM.out.symm
              clear HX
              go_wp2
              go_round
              case rel => exact ⟨i + 1, by omega, by omega, by go_num, HX2⟩
              case measure => simp [intOf]; omega
            · have HR := hide (HT.out i hi1 hb HM.out.symm)
              clear hb
              go_wp2
              go_ret
              exact ⟨by rw [HR.out]; rfl, rfl⟩
          · have h1 : (i : Int) < (b : Int) := by omega
            have h2 : ¬ (i : Int) < (ms.length : Int) := by omega
            have HR := hide (HF.out fun x h1 h2 => by
              by_cases hx : x < i
              · exact HX.out x h1 hx
              · rw [List.getD_eq_getElem?_getD, List.getElem?_eq_none (by omega)]
                rfl)
            clear hb hl
            go_wp2
            go_ret
            exact ⟨by rw [HR.out]; rfl, rfl⟩
        · have h1 : ¬ (i : Int) < (b : Int) := by omega
          have HR := hide (HF.out fun x h1 h2 => HX.out x h1 (by omega))
          clear hb
          go_wp2
          go_ret
          exact ⟨by rw [HR.out]; rfl, rfl⟩
end
end Go.Proofs.YthlaibkdcebekaaDoor
namespace Go.Proofs.YthlaibkdcebekaaDoor
open Go.RowKit
open Go.Deep
/-- A type of lists, and the type of a list of such. -/
structure TE (t te : TypeId) : Prop where
  sl : Tryd.prog.underlying t = some (.slice te)
  inf : (Tryd.prog.info? te).map (fun i => (i.zero.map (·.cells.size), i.size, i.bytes)) = some (some 1, 1, 24)
theorem TL : TE 54 22 := ⟨Tryd.underlying54, by kernel_rfl⟩
theorem TR : TE 61 31 := ⟨Tryd.underlying61, by kernel_rfl⟩
theorem TB : TE 56 23 := ⟨Tryd.underlying56, by kernel_rfl⟩
theorem TE.parts {t te : TypeId} (T : TE t te) : ∃ i z, Tryd.prog.info? te = some i ∧ i.zero = some z ∧ z.cells.size = 1 ∧ i.size = 1 ∧ i.bytes = 24 := by
  have h := T.inf
  cases hi : Tryd.prog.info? te with
  | none => rw [hi] at h; cases h
  | some i =>
    rw [hi] at h
    simp only [Option.map_some, Option.some.injEq, Prod.mk.injEq] at h
    obtain ⟨h1, h2, h3⟩ := h
    cases hz : i.zero with
    | none => rw [hz] at h1; cases h1
    | some z =>
      rw [hz] at h1
      exact ⟨i, z, rfl, hz, by simpa using h1, h2, h3⟩
/-- What is said of an element holds on where its block is as it was. -/
def Kp (P : Nat → World → Value → Prop) : Prop := ∀ i W W' x, P i W x → (∀ g, x.ownBlock = some g → W'.heap[g]? = W.heap[g]?) → W.heap.size ≤ W'.heap.size → P i W' x
/-- A list of lists of the program's own. -/
structure Rw (te : TypeId) (P : Nat → World → Value → Prop) (w W : World) (v : Value) (vs : List Value) : Prop where
  row : W.ownsRow 0 te 1 v vs.length vs
  bel : Below w.heap.size w W
  far : ∀ g, v.ownBlock = some g → w.heap.size ≤ g
  el : ∀ i x, vs[i]? = some x → P i W x ∧ ∀ g, x.ownBlock = some g → g < W.heap.size ∧ v.ownBlock ≠ some g
section
variable {t te : TypeId} {P : Nat → World → Value → Prop} {w W W' : World} {v v' x : Value} {vs : List Value}
theorem row_blockG {n : Nat} {xs : List Value} (h : W.ownsRow 0 te 1 v n xs) (hb : ∀ g, v.ownBlock = some g → W'.heap[g]? = W.heap[g]?) : W'.ownsRow 0 te 1 v n xs := by
  obtain ⟨h2, h3⟩ := h
  refine ⟨h2, ?_⟩
  rcases h3 with ⟨rfl, h0⟩ | ⟨g, cap, cur, rfl, h4, hg, h5⟩
  · exact .inl ⟨rfl, h0⟩
  · exact .inr ⟨g, cap, cur, rfl, h4, (hb g rfl).trans hg, h5⟩
theorem Rw.next (K : Kp P) (j : Rw te P w W v vs) (h : Below W.heap.size W W') : Rw te P w W' v vs :=
  ⟨row_blockG j.row fun g hg => h.block _ (j.row.lt g hg).2, below_next j.bel h, j.far, fun i x hx =>
    ⟨K i W W' x (j.el i x hx).1 (fun g hg => h.block _ ((j.el i x hx).2 g hg).1) h.size, fun g hg => ⟨Nat.lt_of_lt_of_le ((j.el i x hx).2 g hg).1 h.size, ((j.el i x hx).2 g hg).2⟩⟩⟩
theorem Rw.onto (K : Kp P) (j : Rw te P w W v vs) (hgr : W.grownBy W' v.ownBlock) (hv : v'.ownBlock = v.ownBlock ∨ v'.ownBlock = some W.heap.size) (hr : W'.ownsRow 0 te 1 v' (vs.length + 1) (vs ++ [x])) (hx : P vs.length W x) (hxa : ∀ g, x.ownBlock = some g → g < W.heap.size ∧ v.ownBlock ≠ some g) : Rw te P w W' v' (vs ++ [x]) := by
  have o : Onto W W' v v' := ⟨hgr, hv.elim .inl fun h => .inr ⟨_, h, Nat.le_refl _⟩⟩
  have kp : ∀ i y, P i W y → (∀ g, y.ownBlock = some g → g < W.heap.size ∧ v.ownBlock ≠ some g) → P i W' y ∧ ∀ g, y.ownBlock = some g → g < W'.heap.size ∧ v'.ownBlock ≠ some g := fun i y hy ha =>
    ⟨K i W W' y hy (fun g hg => hgr.block g (ha g hg).1 (fun e => (ha g hg).2 e.symm)) hgr.size, fun g hg => ⟨Nat.lt_of_lt_of_le (ha g hg).1 hgr.size, fun e => by
      rcases hv with h | h
      · exact (ha g hg).2 (h.symm.trans e)
      · rw [h] at e
        have := (ha g hg).1
        injection e with e
        omega⟩⟩
  refine ⟨by simpa using hr, j.bel.trans (o.below j.bel.size j.far), o.far j.bel.size j.far, fun i y hy => ?_⟩
  rcases Nat.lt_or_ge i vs.length with hi | hi
  · rw [List.getElem?_append_left hi] at hy
    exact kp _ _ (j.el i y hy).1 (j.el i y hy).2
  · rw [List.getElem?_append_right hi] at hy
    have h0 : i - vs.length = 0 := by
      have := (List.getElem?_eq_some_iff.1 hy).1
      simp at this
      omega
    rw [h0] at hy
    cases hy
    rw [show i = vs.length by omega]
    exact kp _ _ hx hxa
theorem Rw.new (K : Kp P) {W0 : World} (b : Below w.heap.size w W0) (hx : P 0 W0 x) (hxa : ∀ g, x.ownBlock = some g → g < W0.heap.size) : Rw te P w (W0.alloc (.cells #[x] te)) (.slice (some ⟨W0.heap.size, 0, none⟩) 1 1) [x] :=
  ⟨⟨rfl, .inr ⟨W0.heap.size, 1, #[x], rfl, Nat.zero_le _, heap_alloc_last _ _, Nat.le_refl _, by unfold maxLen; omega, rfl, rfl⟩⟩, b.alloc b.size _, fun g hg => by cases hg; exact b.size, fun i y hy => by
    rcases i with _ | i
    · cases hy
      have hb : Below W0.heap.size W0 (W0.alloc (.cells #[x] te)) := (Below.refl _ _).alloc (Nat.le_refl _) _
      exact ⟨K 0 W0 _ x hx (fun g hg => hb.block _ (hxa g hg)) hb.size, fun g hg => ⟨Nat.lt_of_lt_of_le (hxa g hg) hb.size, fun e => by cases e; exact Nat.lt_irrefl _ (hxa _ hg)⟩⟩
    · simp at hy⟩
theorem Rw.cell (j : Rw te P w W v vs) {g : Nat} (hg : v.ownBlock = some g) {i : Nat} (hx : vs[i]? = some x) : W.cell? ⟨g, i, none⟩ = some x := by
  have := j.row.cells hg i x hx
  have hadd : (⟨g, 0, none⟩ : Addr).add i = ⟨g, i, none⟩ := by unfold Addr.add; split <;> simp_all
  rw [hadd] at this
  exact this
theorem Rw.form (j : Rw te P w W v vs) (h0 : 0 < vs.length) : ∃ g cap, v = .slice (some ⟨g, 0, none⟩) vs.length cap ∧ vs.length ≤ cap := by
  rcases j.row.2 with ⟨_, h⟩ | ⟨g, cap, cur, rfl, _, _, h5, _⟩
  · omega
  · exact ⟨g, cap, rfl, h5⟩
theorem TE.app (T : TE t te) (K : Kp P) (j : Rw te P w W v vs) {ty : TypeId} (ad : Addr) (h1 : x.oneCell' = true) (hc1 : W.cell? ad = some x) (hx : P vs.length W x) (hxa : ∀ g, x.ownBlock = some g → g < W.heap.size ∧ v.ownBlock ≠ some g) (hn : vs.length ≤ 1000) :
    ∃ v' W', (Builtin.append_ #[t, t] ty #[v, .slice (some ad) 1 1]).run Tryd.prog W = .ok v' W' ∧ Rw te P w W' v' (vs ++ [x]) := by
  obtain ⟨i0, z, hi, hz0, hzs, hz1, hz2⟩ := T.parts
  obtain ⟨v', w', hr, h2, h3, _, h5⟩ := run_append_own_at (P := Tryd.prog) W 0 t ty te i0 z 1 24 T.sl hi hz0 hz1 hz2 hzs (by decide) v vs.length vs j.row ad 1 1 [x] rfl
    (fun k u hu => by
      rcases k with _ | k
      · cases hu
        rw [show ad.add 0 = ad by unfold Addr.add; split <;> simp_all]
        exact hc1
      · simp at hu)
    (fun u hu => by simp at hu; rw [hu]; exact h1) (by unfold maxLen; omega) (by omega) (Nat.zero_le _)
  exact ⟨v', w', hr, j.onto K h3 h5 h2 hx hxa⟩
end
section
variable {t te : TypeId} {P : Nat → World → Value → Prop} {w W : World} {ops : Array Oper} {rest : List Oper} {o : Oper} {a : Act} {Q : Exit → Act → World → Prop} {v : Value} {vs : List Value}
theorem TE.wpApp (T : TE t te) (K : Kp P) (hgd : o.guard = none) (s y : Operand)
    (ho : o.op = .call { callee := .builtin .append, args := #[s, y], argTypes := #[t, t] })
    (hs : a.eval s = v) (j : Rw te P w W v vs) (ad : Addr) (hy : a.eval y = .slice (some ad) 1 1) (x : Value) (h1 : x.oneCell' = true) (hc1 : W.cell? ad = some x) (hx : P vs.length W x) (hxa : ∀ g, x.ownBlock = some g → g < W.heap.size ∧ v.ownBlock ≠ some g) (hn : vs.length ≤ 1000)
    (h : ∀ v' W', Rw te P w W' v' (vs ++ [x]) → wpList Tryd.prog ops Q rest (a.put o.dst v') W') :
    wpList Tryd.prog ops Q (o :: rest) a W := by
  refine wpList_plain hgd fun K0 hK => ?_
  obtain ⟨v', w', hr, h2⟩ := T.app (ty := o.type) K j ad h1 hc1 hx hxa hn
  unfold Oper.wp execOp
  simp only [ho, resolve, invoke, builtin, Sem.run_bind, Sem.run_pure, Result.andThen_ok, List.map_toArray, List.map_cons, List.map_nil, hs, hy, hr]
  exact hK _ _ (h v' w' h2)
end
end Go.Proofs.YthlaibkdcebekaaDoor
namespace Go.Proofs.YthlaibkdcebekaaDoor
open Go.RowKit
open Go.Deep
/-- The levels of a list of ids, as elements. -/
def PL (L : List (List UInt8)) (i : Nat) (W : World) (x : Value) : Prop := LH W x (lv L i)
theorem PL.kp (L : List (List UInt8)) : Kp (PL L) := fun i W W' x h hb hs => by
  obtain ⟨h1, ao, cap, rfl, h2, h3⟩ := h
  refine ⟨h1, ao, cap, rfl, h2, fun j hj => ?_⟩
  obtain ⟨g, off, rfl, hg, hr⟩ := h3 j hj
  exact ⟨g, off, rfl, Nat.lt_of_lt_of_le hg hs, range_block hr (hb g rfl)⟩
section
set_option maxRecDepth 10000
set_option maxHeartbeats 4000000
theorem rlevels_any (v : Value) (L : List (List UInt8)) (w : World) (hL : LH w v L) (h0 : 0 < L.length) (hn : L.length < 4294967296) : Calls Tryd.prog 22 #[v] w fun e w' => ∃ v', e = .returned v' ∧ ∃ vs, Rw 31 (PL L) w w' v' vs ∧ vs.length = dp L.length + 1 := by
  have hlt0 := hL.lt h0
  have J0 := hide (Rw.new (te := 31) (PL.kp L) (Below.refl w.heap.size w) (show PL L 0 w v from hL) hlt0)
  obtain ⟨ao, cap, rfl⟩ := hL.form
  have HN := hide (And.intro h0 hn)
  clear hL h0 hn hlt0
  go_enter Tryd.func22, Tryd.ntmps22
  go_wp2
  generalize w.alloc (.cells #[.slice ao L.length cap] 31) = W0 at *
  go_loopw [0, 3] (fun s0 s3 wr => ∃ (k : Nat) (vs : List Value), vs.length = k + 1 ∧ vs[k]? = some s0 ∧ Hid (Rw 31 (PL L) w wr s3 vs) ∧ Hid (dp (lv L k).length + k = dp L.length)) (fun s0 _ _ => lenV2 s0)
  case atStart => exact ⟨0, _, rfl, rfl, J0, by rfl⟩
  case round =>
    clear J0
    obtain ⟨k, vs, hvs, hv4, J, HD⟩ := hrel
    have HV := hide (And.intro hvs hv4)
    have O4 : Hid (LH wr u0 (lv L k)) := (J.out.el k _ hv4).1
    clear hvs hv4
    obtain ⟨ao4, cap4, rfl⟩ := O4.out.form
    have hle := lv_le L k
    have hpos := lv_pos L HN.out.1 k
    have hn := HN.out.2
    by_cases hlt : 1 < (lv L k).length
    · have h1 : (1 : Int) < ((lv L k).length : Int) := by omega
      have HD2 : Hid (dp (lv L (k + 1)).length + (k + 1) = dp L.length) := by
        show _ = _
        rw [← HD.out, dp_step _ hlt, lv, nxt_len]
        omega
      have HA := hide fun W hW => rnext_any (.slice ao4 (lv L k).length cap4) (lv L k) W hW (by omega)
      rw [show nxt (lv L k) = lv L (k + 1) from rfl] at HA
      have ME := hide (show (lv L (k + 1)).length < (lv L k).length by rw [lv, nxt_len]; omega)
      have HP2 := hide (lv_pos L HN.out.1 (k + 1))
      have SZ : Hid (vs.length ≤ 1000) := by
        show _ ≤ _
        have := HV.out.1
        have := HD.out
        have := dp_le L.length hn
        omega
      clear hlt hle hpos hn
      go_upto_region 4 with (first | (go_at_call 35; refine (HA.out _ O4.out).mono ?_; rintro e w2 ⟨v2, rfl, o2⟩; obtain ⟨ao2, c2, rfl⟩ := o2.own.form; have J2 := hide (J.out.next (PL.kp L) o2.bel); have F2 := hide o2.far; have O2 := hide o2.own; clear o2))
      have NB : Hid (∀ g, (Value.slice ao2 (lv L (k + 1)).length c2).ownBlock = some g → g < w2.heap.size ∧ u3.ownBlock ≠ some g) := fun g hg => ⟨O2.out.lt g hg, fun e => by
        have h1 := F2.out g hg
        have h2 := (J.out.row.lt g e).2
        omega⟩
      have J3 := hide (J2.out.next (PL.kp L) ((Below.refl _ _).alloc (Nat.le_refl _) (.cells #[.slice ao2 (lv L (k + 1)).length c2] 31)))
      have O3 : Hid (PL L vs.length (w2.alloc (.cells #[.slice ao2 (lv L (k + 1)).length c2] 31)) (.slice ao2 (lv L (k + 1)).length c2)) := by
        show LH _ _ _
        rw [HV.out.1]
        exact (O2.out.alloc _).read
      have NB3 : Hid (∀ g, (Value.slice ao2 (lv L (k + 1)).length c2).ownBlock = some g → g < (w2.alloc (.cells #[.slice ao2 (lv L (k + 1)).length c2] 31)).heap.size ∧ u3.ownBlock ≠ some g) := fun g hg => ⟨Nat.lt_of_lt_of_le (NB.out g hg).1 (by simp), (NB.out g hg).2⟩
      have C3 : Hid ((w2.alloc (.cells #[.slice ao2 (lv L (k + 1)).length c2] 31)).cell? ⟨w2.heap.size, 0, none⟩ = some (.slice ao2 (lv L (k + 1)).length c2)) := by
        show _ = _
        rw [cell_of_row _ _ _ _ _ _ (heap_alloc_last w2 _)]
        rfl
      clear NB F2
      go_wp2_with (first | (at_builtin; refine TE.wpApp TR (PL.kp L) rfl _ _ rfl rfl J3.out ⟨w2.heap.size, 0, none⟩ rfl (.slice ao2 (lv L (k + 1)).length c2) rfl C3.out O3.out NB3.out SZ.out ?_; intro v5 w5 j5; have J5 := hide j5; clear j5))
      exact ⟨⟨k + 1, vs ++ [.slice ao2 (lv L (k + 1)).length c2], by simp [HV.out.1], by rw [← HV.out.1]; simp, J5, HD2⟩, by simpa [lenV2] using ME.out⟩
    · have h1 : ¬ (1 : Int) < ((lv L k).length : Int) := by omega
      have hl1 : (lv L k).length = 1 := by omega
      have HK : Hid (vs.length = dp L.length + 1) := by
        show _ = _
        have := HD.out
        rw [hl1, dp_low 1 (by omega)] at this
        have := HV.out.1
        omega
      clear hlt hle hn hl1 hpos
      go_wp2
      go_ret
      exact ⟨_, rfl, vs, J.out, HK.out⟩
end
end Go.Proofs.YthlaibkdcebekaaDoor
namespace Go.Proofs.YthlaibkdcebekaaDoor
open Go.RowKit
open Go.Deep
/-- The levels of marks, as elements. -/
def PM (ms : List Bool) (i : Nat) (W : World) (x : Value) : Prop := LB W x (mv ms i)
theorem PM.kp (ms : List Bool) : Kp (PM ms) := fun i W W' x h hb hs => by
  obtain ⟨ao, cap, rfl, h2, h3⟩ := h
  refine ⟨ao, cap, rfl, h2, fun j hj => ?_⟩
  obtain ⟨g, off, rfl, hg, hr⟩ := h3 j hj
  refine ⟨g, off, rfl, Nat.lt_of_lt_of_le hg hs, ?_⟩
  rw [← hr]
  exact World.cell?_of_block (a := ⟨g, off + j, none⟩) (hb g rfl)
/-- Marks at block g. -/
def Bd (W : World) (g k : Nat) (f : Nat → Bool) : Prop := W.rowIs g 4 k (fun i => .bool (f i))
section
variable {W W' : World} {g k : Nat} {f : Nat → Bool}
theorem Bd.lt (h : Bd W g k f) : g < W.heap.size := World.rowIs.lt h
theorem Bd.fz (h : Bd W g k f) (i : Nat) : W.frozen? ⟨g, i, none⟩ = false := World.rowIs.frozen h i
theorem Bd.cell (h : Bd W g k f) {i : Nat} (hi : i < k) : W.cell? ⟨g, i, none⟩ = some (.bool (f i)) := World.rowIs.cell h hi
theorem Bd.set (h : Bd W g k f) (i : Nat) (x : Bool) {f' : Nat → Bool} (e : ∀ j, j < k → (if j = i then x else f j) = f' j) : Bd (W.setCell ⟨g, i, none⟩ (.bool x)) g k f' := by
  refine (World.rowIs.set h i _).congr (fun j hj => ?_)
  rw [← e j hj]
  by_cases e : j = i <;> simp [e]
theorem Bd.of_own {n : Nat} {xs : List Value} (h : W.ownsRow 0 4 1 (.slice (some ⟨g, 0, none⟩) n n) n xs) (hx : ∀ i, i < n → xs[i]? = some (.bool (f i))) : Bd W g n f := by
  rcases h.2 with ⟨e, _⟩ | ⟨g', cap, cur, e, _, hg, _, _, hsz, ht⟩
  · cases e
  · injection e with e1 e2 e3
    cases e1
    subst e3
    refine row_of (by simpa using hsz) hg (fun i hi => ?_)
    rw [← hx i hi, ← ht, List.getElem?_take, if_pos (by omega), Array.getElem?_toList]
theorem Bd.list (h : Bd W g k f) (ms : List Bool) (hl : ms.length = k) (he : ∀ i, i < k → ms.getD i false = f i) : LB W (.slice (some ⟨g, 0, none⟩) k k) ms := by
  subst hl
  exact ⟨_, _, rfl, Nat.le_refl _, fun i hi => ⟨g, 0, rfl, h.lt, by rw [Nat.zero_add, he i hi]; exact h.cell hi⟩⟩
end
theorem bool_info : (Tryd.prog.info? 4).map (fun i => (i.zero, i.size, i.bytes)) = some (some (.bool false), 1, 1) := by kernel_rfl
theorem bool_parts : ∃ i, Tryd.prog.info? 4 = some i ∧ i.zero = some (.bool false) ∧ i.size = 1 ∧ i.bytes = 1 := by
  have h := bool_info
  cases hi : Tryd.prog.info? 4 with
  | none => rw [hi] at h; cases h
  | some i =>
    rw [hi] at h
    simp only [Option.map_some, Option.some.injEq, Prod.mk.injEq] at h
    exact ⟨i, rfl, h⟩
/-- What a level above holds when j marks of a level were gone over. -/
def pb (l : List Bool) (j i : Nat) : Bool := (decide (2 * i < j) && l.getD (2 * i) false) || (decide (2 * i + 1 < j) && l.getD (2 * i + 1) false)
theorem pb_step (l : List Bool) (j i : Nat) : (if i = j / 2 then (pb l j (j / 2) || l.getD j false) else pb l j i) = pb l (j + 1) i := by
  unfold pb
  by_cases h : i = j / 2
  · subst h
    rw [if_pos rfl]
    rcases Nat.mod_two_eq_zero_or_one j with h0 | h0
    · have e : 2 * (j / 2) = j := by omega
      rw [e]
      simp
      intro h
      omega
    · have e : 2 * (j / 2) + 1 = j := by omega
      have e1 : 2 * (j / 2) < j := by omega
      rw [e]
      simp [e1, Nat.lt_succ_of_lt e1]
  · rw [if_neg h]
    have e1 : (2 * i < j) ↔ (2 * i < j + 1) := by omega
    have e2 : (2 * i + 1 < j) ↔ (2 * i + 1 < j + 1) := by omega
    simp only [e1, e2]
theorem pb_zero (l : List Bool) (i : Nat) : pb l 0 i = false := by simp [pb]
theorem getD_past (l : List Bool) (i : Nat) (h : l.length ≤ i) : l.getD i false = false := by
  rw [List.getD_eq_getElem?_getD, List.getElem?_eq_none h]
  rfl
theorem pb_all (l : List Bool) (i : Nat) : pb l l.length i = (l.getD (2 * i) false || l.getD (2 * i + 1) false) := by
  unfold pb
  by_cases h1 : 2 * i + 1 < l.length
  · simp [h1, Nat.lt_of_succ_lt h1]
  · rw [getD_past l (2 * i + 1) (by omega)]
    by_cases h2 : 2 * i < l.length
    · simp [h2]
    · rw [getD_past l (2 * i) (by omega)]
      simp
/-- What the loops of meantLevels hold: the levels so far, and the level that is being made. -/
structure Mz (ms : List Bool) (w W : World) (v : Value) (vs : List Value) (g n : Nat) (f : Nat → Bool) : Prop where
  rw' : Rw 23 (PM ms) w W v vs
  bd : Bd W g n f
  far : w.heap.size ≤ g
  ap : v.ownBlock ≠ some g
  aps : ∀ x ∈ vs, x.ownBlock ≠ some g
theorem Mz.set {ms : List Bool} {w W : World} {v : Value} {vs : List Value} {g n : Nat} {f f' : Nat → Bool} (j : Mz ms w W v vs g n f) (i : Nat) (x : Bool) (e : ∀ j, j < n → (if j = i then x else f j) = f' j) : Mz ms w (W.setCell ⟨g, i, none⟩ (.bool x)) v vs g n f' := by
  have hb : ∀ g', g' ≠ g → (W.setCell ⟨g, i, none⟩ (.bool x)).heap[g']? = W.heap[g']? := fun g' h => Below.heap_setCell _ _ _ _ h
  have hs : (W.setCell ⟨g, i, none⟩ (.bool x)).heap.size = W.heap.size := by simp [World.setCell]
  refine ⟨⟨row_blockG j.rw'.row fun g' hg => hb g' (fun e => j.ap (e ▸ hg)), j.rw'.bel.setCell j.far _, j.rw'.far, fun k y hy => ?_⟩, j.bd.set i x e, j.far, j.ap, j.aps⟩
  have hm : y ∈ vs := List.mem_of_getElem? hy
  refine ⟨PM.kp ms k W _ y (j.rw'.el k y hy).1 (fun g' hg => hb g' (fun e => j.aps y hm (e ▸ hg))) (Nat.le_of_eq hs.symm), fun g' hg => ?_⟩
  rw [hs]
  exact (j.rw'.el k y hy).2 g' hg
section
set_option maxRecDepth 10000
set_option maxHeartbeats 4000000
theorem meantLevels_any (v : Value) (ms : List Bool) (w : World) (hL : LB w v ms) (h0 : 0 < ms.length) (hn : ms.length < 4294967296) : Calls Tryd.prog 20 #[v] w fun e w' => ∃ v', e = .returned v' ∧ ∃ vs, Rw 23 (PM ms) w w' v' vs ∧ vs.length = dp ms.length + 1 := by
  have hlt0 : ∀ g, v.ownBlock = some g → g < w.heap.size := fun g hg => by
    obtain ⟨ao, cap, rfl, _, h3⟩ := hL
    obtain ⟨g', off, rfl, h4, _⟩ := h3 0 h0
    cases hg
    exact h4
  have J0 := hide (Rw.new (te := 23) (PM.kp ms) (Below.refl w.heap.size w) (show PM ms 0 w v from hL) hlt0)
  obtain ⟨ao, cap, rfl, _⟩ := hL.form
  obtain ⟨i0, hi, hz, hs, hby⟩ := bool_parts
  have HN := hide (And.intro h0 hn)
  clear hL h0 hn hlt0
  go_enter Tryd.func20, Tryd.ntmps20
  go_wp2
  generalize w.alloc (.cells #[.slice ao ms.length cap] 23) = W0 at *
  go_loopw [3, 4, 5, 6, 7, 20] (fun s3 s4 _ _ _ _ wr => ∃ (k : Nat) (vs : List Value), vs.length = k + 1 ∧ vs[k]? = some s4 ∧ Hid (Rw 23 (PM ms) w wr s3 vs) ∧ Hid (dp (mv ms k).length + k = dp ms.length)) (fun _ s4 _ _ _ _ _ => lenV2 s4)
  case atStart => exact ⟨0, _, rfl, rfl, J0, by rfl⟩
  case round =>
    clear J0
    obtain ⟨k, vs, hvs, hv4, J, HD⟩ := hrel
    have HV := hide (And.intro hvs hv4)
    have O4 : Hid (LB wr u4 (mv ms k)) := (J.out.el k _ hv4).1
    clear hvs hv4
    obtain ⟨ao4, cap4, rfl, _⟩ := O4.out.form
    have hn := HN.out
    have hlm : (mv ms k).length ≤ ms.length := by
      rw [mv_len ms (ms.map fun _ => []) (by simp) k]
      exact Nat.le_trans (lv_le _ k) (by simp)
    by_cases hlt : 1 < (mv ms k).length
    · have h1 : (1 : Int) < ((mv ms k).length : Int) := by omega
      have HU := hide (show mv ms (k + 1) = upM (mv ms k) from rfl)
      generalize hl : mv ms k = l at *
      have HLK := hide hl
      clear hl
      have HW := hide fun W => width_any l.length 1 (by omega) (by omega) W
      rw [show wdt l.length 1 = (l.length + 1) / 2 from rfl] at HW
      obtain ⟨n, hnn⟩ : ∃ n, n = (l.length + 1) / 2 := ⟨_, rfl⟩
      rw [← hnn] at HW
      have HNN := hide hnn
      have HLL := hide hlt
      have M0 : Hid (Mz ms w (wr.alloc (.cells (madeCells #[.bool false] n) 4)) u3 vs wr.heap.size n (pb l 0)) :=
        ⟨J.out.next (PM.kp ms) ((Below.refl _ _).alloc (Nat.le_refl _) _), (World.rowIs_made wr (.bool false) n 4).congr (fun i _ => by rw [pb_zero]), J.out.bel.size, fun e => Nat.lt_irrefl _ (J.out.row.lt _ e).2, fun x hx e => by
          obtain ⟨i, hi⟩ := List.getElem?_of_mem hx
          exact Nat.lt_irrefl _ ((J.out.el i x hi).2 _ e).1⟩
      have b1 : i0.bytes * n ≤ 281474976710656 := by rw [hby]; omega
      have b2 : n ≤ 9223372036854775807 := by omega
      have HB := hide (And.intro b1 b2)
      have HH := hide (And.intro hi (And.intro hz hs))
      have HLN := hide hlm
      clear hi hz hs hby b1 b2 hnn hlt hlm hn
      go_upto_region 5 with (first | (go_at_call 34; refine (HW.out _).mono ?_; rintro e w1 ⟨rfl, hww⟩; subst w1) | (at_make; refine wpList_make_row _ rfl _ _ 23 rfl 4 i0 (.bool false) Tryd.underlying23 HH.out.1 HH.out.2.1 HH.out.2.2 rfl .i64 .i64 n rfl rfl HB.out.1 HB.out.2 ?_))
      generalize wr.alloc (.cells (madeCells #[.bool false] n) 4) = W1 at *
      generalize wr.heap.size = g5 at *
      go_wp2
      go_loopw [6, 7, 20] (fun _ _ d wi => ∃ j : Nat, j ≤ l.length ∧ d = .int .i64 (j : Int) ∧ Hid (Mz ms w wi u3 vs g5 n (pb l j))) (fun _ _ d _ => (l.length - intOf d).toNat)
      case atStart => exact ⟨0, Nat.zero_le _, rfl, M0⟩
      case round =>
        clear M0
        obtain ⟨j, hj, rfl, M⟩ := hrel
        have hnb := HN.out.2
        have hln : l.length ≤ ms.length := HLN.out
        by_cases hlj : j < l.length
        · obtain ⟨g4, off4, rfl⟩ := O4.out.base (by omega)
          have h2 : (j : Int) < (l.length : Int) := by omega
          have h3 : (0 : Int) ≤ (j : Int) := by omega
          have cl : wr.cell? ⟨g4, off4 + j, none⟩ = some (.bool (l.getD j false)) := by
            have h := (M.out.rw'.el k _ HV.out.2).1
            unfold PM at h
            rw [HLK.out] at h
            exact h.cell j hlj
          have hj2 : j / 2 < n := by rw [HNN.out]; omega
          have c2 := M.out.bd.cell hj2
          have fz := M.out.bd.fz (j / 2)
          have hj3 : ((j / 2 : Nat) : Int) < (n : Int) := by omega
          have e1 : (j : Int) / 2 = ((j / 2 : Nat) : Int) := by omega
          have e2 : IntKind.i64.wrap ((j : Int) + 1) = j + 1 := wrapI _ (by omega) (by omega)
          have e4 : wrap64 ((j / 2 : Nat) : Int) = ((j / 2 : Nat) : Int) := by
            unfold wrap64
            omega
          have h5 : (0 : Int) ≤ ((j / 2 : Nat) : Int) := by omega
          have PS := hide (pb_step l j)
          obtain ⟨q, hq⟩ : ∃ q, q = j / 2 := ⟨_, rfl⟩
          rw [← hq] at c2 fz hj3 e1 e4 h5 PS
          obtain ⟨m, hm⟩ : ∃ m, m = l.getD j false := ⟨_, rfl⟩
          obtain ⟨o, ho⟩ : ∃ o, o = pb l j q := ⟨_, rfl⟩
          rw [← hm] at cl PS
          rw [← ho] at c2 PS
          have KK := hide (And.intro (show j + 1 ≤ l.length by omega) (show ((l.length : Int) - ((j : Int) + 1)).toNat < ((l.length : Int) - (j : Int)).toNat by omega))
          clear hm ho hq hj2 hlj hj hnb hln
          cases o
          · have M2 := hide (M.out.set q m (f' := pb l (j + 1)) (fun i _ => by have := PS.out i; simpa using this))
            clear M PS
            go_wp2
            exact ⟨⟨j + 1, KK.out.1, by go_num, M2⟩, by simpa [intOf] using KK.out.2⟩
          · have M2 := hide (M.out.set q true (f' := pb l (j + 1)) (fun i _ => by have := PS.out i; simpa using this))
            clear M PS
            go_wp2
            exact ⟨⟨j + 1, KK.out.1, by go_num, M2⟩, by simpa [intOf] using KK.out.2⟩
        · have h2 : ¬ (j : Int) < (l.length : Int) := by omega
          obtain rfl : j = l.length := by omega
          have hnl := HNN.out
          have hl1 := HLL.out
          have HD2 : Hid (dp (mv ms (k + 1)).length + (k + 1) = dp ms.length) := by
            show _ = _
            rw [← HD.out, HU.out, upM_len, dp_step l.length hl1]
            omega
          have OB : Hid (PM ms (k + 1) wr (.slice (some ⟨g5, 0, none⟩) n n)) := by
            show LB _ _ _
            rw [HU.out]
            exact M.out.bd.list _ (by rw [upM_len, hnl]) (fun i _ => by rw [upM_at, pb_all])
          have ME := hide (show n < l.length by omega)
          have SZ : Hid (vs.length ≤ 1000) := by
            show _ ≤ _
            have := HV.out.1
            have := HD.out
            have := dp_le ms.length hnb
            omega
          have J3 := hide (M.out.rw'.next (PM.kp ms) ((Below.refl _ _).alloc (Nat.le_refl _) (.cells #[.slice (some ⟨g5, 0, none⟩) n n] 23)))
          have O3 : Hid (PM ms vs.length (wr.alloc (.cells #[.slice (some ⟨g5, 0, none⟩) n n] 23)) (.slice (some ⟨g5, 0, none⟩) n n)) := by
            show LB _ _ _
            rw [HV.out.1]
            exact LB.below OB.out ((Below.refl _ _).alloc (Nat.le_refl _) _)
          have NB3 : Hid (∀ g, (Value.slice (some ⟨g5, 0, none⟩) n n).ownBlock = some g → g < (wr.alloc (.cells #[.slice (some ⟨g5, 0, none⟩) n n] 23)).heap.size ∧ u3.ownBlock ≠ some g) := fun g hg => by
            cases hg
            exact ⟨Nat.lt_of_lt_of_le M.out.bd.lt (by simp), M.out.ap⟩
          have C3 : Hid ((wr.alloc (.cells #[.slice (some ⟨g5, 0, none⟩) n n] 23)).cell? ⟨wr.heap.size, 0, none⟩ = some (.slice (some ⟨g5, 0, none⟩) n n)) := by
            show _ = _
            rw [cell_of_row _ _ _ _ _ _ (heap_alloc_last wr _)]
            rfl
          clear hlj hj hnb hln hnl hl1
          go_wp2_with (first | (at_builtin; refine TE.wpApp TB (PM.kp ms) rfl _ _ rfl rfl J3.out ⟨wr.heap.size, 0, none⟩ rfl (.slice (some ⟨g5, 0, none⟩) n n) rfl C3.out O3.out NB3.out SZ.out ?_; intro v5 w5 j5; have J5 := hide j5; clear j5))
          exact ⟨⟨k + 1, vs ++ [.slice (some ⟨g5, 0, none⟩) n n], by simp [HV.out.1], by rw [← HV.out.1]; simp, J5, HD2⟩, by simpa [lenV2] using ME.out⟩
    · have h1 : ¬ (1 : Int) < ((mv ms k).length : Int) := by omega
      have HK : Hid (vs.length = dp ms.length + 1) := by
        show _ = _
        have := HD.out
        rw [dp_low (mv ms k).length (by omega)] at this
        have := HV.out.1
        omega
      clear hlt hlm hn
      go_wp2
      go_ret
      exact ⟨_, rfl, vs, J.out, HK.out⟩
end
end Go.Proofs.YthlaibkdcebekaaDoor
