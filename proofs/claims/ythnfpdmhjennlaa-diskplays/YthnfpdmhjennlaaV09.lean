/- Disks: the first fall of a plan that strikes. Disks: a fall is taken out of a plan: slices.Delete. Disks: slices.Delete of one fall: its contract. -/
import Derived.Test.YthnfpdmhjennlaaV08
import Derived.Deep.DeepAppendRoom
import Derived.Lib.SliceRun
namespace Go.Proofs.Ythnfpdmhjennlaa
open Go.RowKit
open Go.Deep
open Go.Lib
set_option linter.unusedVariables false
/-- Falls as a list. -/
def KFl : Ek Fl := ⟨33, 92, 4, 32, flv, by decide, by decide, Try.underlying33, by kernel_rfl, fun _ => rfl, fun x v hv => by
  unfold flv at hv
  rcases List.mem_cons.1 hv with rfl | hv
  · rfl
  · rcases List.mem_cons.1 hv with rfl | hv
    · rfl
    · rcases List.mem_cons.1 hv with rfl | hv
      · rfl
      · rcases List.mem_cons.1 hv with rfl | hv
        · rfl
        · cases hv⟩
/-- The place of the first one that strikes, or -1. -/
def fstF (made : Nat) (b : Bool) (P : List Fl) : Int := match P.findIdx? (hereB made b) with | some i => (i : Int) | none => -1
theorem fst_at {made : Nat} {b : Bool} {P : List Fl} (k : Nat) (hk : k < P.length) (hn : ∀ f ∈ P.take k, hereB made b f = false) (hy : hereB made b P[k] = true) : fstF made b P = k := by
  unfold fstF
  have : P.findIdx? (hereB made b) = some k := by
    rw [List.findIdx?_eq_some_iff_getElem]
    refine ⟨hk, hy, fun j hj => ?_⟩
    have := hn (P[j]'(by omega)) (by rw [List.mem_take_iff_getElem]; exact ⟨j, by omega, rfl⟩)
    simp [this]
  rw [this]
theorem fst_none {made : Nat} {b : Bool} {P : List Fl} (hn : ∀ f ∈ P, hereB made b f = false) : fstF made b P = -1 := by
  unfold fstF
  rw [List.findIdx?_eq_none_iff.2 hn]
section
set_option maxRecDepth 10000
set_option maxHeartbeats 1000000
theorem index_any (P : List Fl) (v : Value) (g2 g3 gd made : Nat) (b : Bool) (w : World) (hv : LX KFl w v P) (hl : P.length ≤ 4611686018427387904) (h2 : w.cell? ⟨g2, 0, none⟩ = some (.pointer (some ⟨gd, 0, none⟩))) (h3 : w.cell? ⟨g3, 0, none⟩ = some (.bool b)) (h5 : w.cell? ⟨gd, 3, none⟩ = some (.int .i64 (made : Int))) (l2 : g2 < w.heap.size) (l3 : g3 < w.heap.size) (l5 : gd < w.heap.size) : Calls Try.prog 52 #[v, .func (.func 51) #[] #[.pointer (some ⟨g2, 0, none⟩), .pointer (some ⟨g3, 0, none⟩)]] w fun e w' => e = .returned (.int .i64 (fstF made b P)) ∧ Below w.heap.size w w' := by
  have HV := hide hv
  obtain ⟨ao, cc, rfl⟩ := hv.form
  have HS := hide fun W (hb : Below w.heap.size w W) (f : Fl) => strike1_any f g2 g3 gd made b W ((hb.cell (p := ⟨g2, 0, none⟩) l2).trans h2) ((hb.cell (p := ⟨g3, 0, none⟩) l3).trans h3) ((hb.cell (p := ⟨gd, 3, none⟩) l5).trans h5) (Nat.lt_of_lt_of_le l2 hb.size) (Nat.lt_of_lt_of_le l3 hb.size) (Nat.lt_of_lt_of_le l5 hb.size)
  have HL := hide hl
  obtain ⟨R, hR⟩ : ∃ R, R = fstF made b P := ⟨_, rfl⟩
  rw [← hR]
  have HR := hide hR
  clear hR hv h2 h3 h5 l2 l3 l5 hl
  go_enter Try.func52, Try.ntmps52
  go_wp2
  go_loopw [8] (fun i wr => ∃ k : Nat, k ≤ P.length ∧ i = .int .i64 (k : Int) ∧ Hid (∀ f ∈ P.take k, hereB made b f = false) ∧ Hid (Below w.heap.size w wr)) (fun i _ => (P.length - intOf i).toNat)
  case atStart => exact ⟨0, Nat.zero_le _, rfl, (fun f hf => by simp at hf), Below.refl _ _⟩
  case round =>
    obtain ⟨k, hk, rfl, HN, BL⟩ := hrel
    by_cases hlt : k < P.length
    · obtain ⟨g, off, rfl⟩ := HV.out.base (by omega)
      have hr := (HV.out.below BL.out).range k hlt
      have h1 : (0 : Int) ≤ (k : Int) := by omega
      have h2 : (k : Int) < P.length := by omega
      have hll := HL.out
      have e1 : IntKind.i64.wrap ((k : Int) + 1) = k + 1 := wrapI _ (by omega) (by omega)
      have HY : Hid (hereB made b P[k] = true → R = (k : Int)) := fun e => by rw [HR.out]; exact fst_at k hlt HN.out e
      have HM : Hid (hereB made b P[k] = false → ∀ f ∈ P.take (k + 1), hereB made b f = false) := fun e f hf => by
        rw [List.take_succ_eq_append_getElem hlt] at hf
        rcases List.mem_append.1 hf with hf | hf
        · exact HN.out f hf
        · rw [List.mem_singleton.1 hf]
          exact e
      have HK := hide (HS.out wr BL.out P[k])
      generalize P[k] = f at *
      obtain ⟨fp, fk, ft, fs⟩ := f
      have c0 : wr.cell? ⟨g, off + k * 4, none⟩ = some (.int .i64 fp) := hr 0 _ rfl
      have c1 : wr.cell? ⟨g, off + k * 4 + 1, none⟩ = some (.int .i64 fk) := hr 1 _ rfl
      have c2 : wr.cell? ⟨g, off + k * 4 + 2, none⟩ = some (.int .i64 ft) := hr 2 _ rfl
      have c3 : wr.cell? ⟨g, off + k * 4 + 3, none⟩ = some (.bool fs) := hr 3 _ rfl
      unfold flv at HK
      clear hr
      generalize hereB made b ⟨fp, fk, ft, fs⟩ = hb at *
      cases hb
      · have HM2 := hide (HM.out rfl)
        go_wp2_with (go_at_call 51; refine HK.out.mono ?_; rintro e w2 ⟨rfl, b2⟩; have B2 := hide (below_next BL.out b2); clear b2)
        go_roundw
        case rel => exact ⟨k + 1, by omega, by go_num, HM2, B2⟩
        case measure => simp [intOf]; omega
      · have HY2 := hide (HY.out rfl)
        go_wp2_with (go_at_call 51; refine HK.out.mono ?_; rintro e w2 ⟨rfl, b2⟩; have B2 := hide (below_next BL.out b2); clear b2)
        go_ret
        exact ⟨by rw [HY2.out]; rfl, B2.out⟩
    · have h2 : ¬ (k : Int) < P.length := by omega
      have hke : P.take k = P := List.take_of_length_le (by omega)
      have HN2 : Hid (R = -1) := by
        show _ = _
        rw [HR.out]
        exact fst_none (hke ▸ HN.out)
      go_wp2
      go_ret
      exact ⟨by rw [HN2.out]; rfl, BL.out⟩
end
end Go.Proofs.Ythnfpdmhjennlaa
namespace Go.Proofs.Ythnfpdmhjennlaa
open Go.RowKit
open Go.Deep
open Go.Lib
set_option linter.unusedVariables false
section
variable {α : Type} {E : Ek α} {w W : World} {L : List α}
/-- An own row, cut. -/
theorem OX.cut {g n cap : Nat} (h : OX E w (.slice (some ⟨g, 0, none⟩) n cap) L) (k : Nat) (hk : k ≤ L.length) : OX E w (.slice (some ⟨g, 0, none⟩) k cap) (L.take k) := by
  have hl : (L.take k).length = k := by rw [List.length_take]; omega
  obtain ⟨h1, h2⟩ := h
  refine ⟨by rw [flatE_len], .inr ?_⟩
  rcases h2 with ⟨h0, _⟩ | ⟨g', cap', cur, hv, hbg, hg, hnc, hcm, hcs, htake⟩
  · cases h0
  · cases hv
    refine ⟨g, cap, cur, by rw [hl], hbg, hg, by omega, hcm, hcs, ?_⟩
    have e : flatE E L = flatE E (L.take k) ++ flatE E (L.drop k) := by rw [← flatE_app, List.take_append_drop]
    have := congrArg (List.take ((L.take k).length * E.k)) htake
    rw [List.take_take, e, List.take_left' (flatE_len E _)] at this
    rw [Nat.min_eq_left (Nat.mul_le_mul_right _ (by omega))] at this
    exact this
/-- A cell behind an own row's elements is written. -/
theorem OX.behind {g n cap : Nat} (h : OX E w (.slice (some ⟨g, 0, none⟩) n cap) L) (p : Nat) (hp : L.length * E.k ≤ p) (v : Value) : OX E (w.setCell ⟨g, p, none⟩ v) (.slice (some ⟨g, 0, none⟩) n cap) L := by
  obtain ⟨h1, h2⟩ := h
  refine ⟨h1, .inr ?_⟩
  rcases h2 with ⟨h0, _⟩ | ⟨g', cap', cur, hv, hbg, hg, hnc, hcm, hcs, htake⟩
  · cases h0
  · cases hv
    refine ⟨g, cap, cur.setIfInBounds p v, rfl, hbg, heap_setCell_same w g p _ _ v hg, hnc, hcm, by simpa using hcs, ?_⟩
    rw [Array.toList_setIfInBounds, List.take_set_of_le (by omega)]
    exact htake
theorem OX.there {g n cap : Nat} (h : OX E w (.slice (some ⟨g, 0, none⟩) n cap) L) (p : Nat) (hp : p < cap * E.k) : (w.cell? ⟨g, p, none⟩).isSome = true ∧ w.frozen? ⟨g, p, none⟩ = false := by
  rcases h.2 with ⟨h0, _⟩ | ⟨g', cap', cur, hv, hbg, hg, hnc, hcm, hcs, htake⟩
  · cases h0
  · cases hv
    refine ⟨?_, frozen_of_row w _ _ _ _ hg⟩
    rw [cell_of_row _ _ _ _ _ _ hg, Array.getElem?_eq_getElem (by omega)]
    rfl
end
theorem clear_fall (w : World) (ty : TypeId) (g o c : Nat) (hc : ∀ j, j < 4 → (w.cell? ⟨g, o + j, none⟩).isSome = true ∧ w.frozen? ⟨g, o + j, none⟩ = false) :
    (Builtin.clear_ #[33] ty #[.slice (some ⟨g, o, none⟩) 1 c]).run Try.prog w = .ok (.tuple #[]) (w.setCells g o [.int .i64 0, .int .i64 0, .int .i64 0, .bool false]) := by
  have hst := run_storeCells_cells (P := Try.prog) g o [.int .i64 0, .int .i64 0, .int .i64 0, .bool false] 0 w (fun j hj => (hc j hj).1) (fun j hj => (hc j hj).2) (by intro v hv; simp only [List.mem_cons, List.not_mem_nil, or_false] at hv; rcases hv with rfl | rfl | rfl | rfl <;> rfl)
  simp only [Nat.add_zero] at hst
  have hv : ∀ w, (zeroValue 92).run Try.prog w = .ok (.agg #[.int .i64 0, .int .i64 0, .int .i64 0, .bool false]) w := fun w => by kernel_rfl
  have hzc : (Builtin.zeroCells (Value.agg #[.int .i64 0, .int .i64 0, .int .i64 0, .bool false]).cells 1).toList = [.int .i64 0, .int .i64 0, .int .i64 0, .bool false] := by kernel_rfl
  simp [Builtin.clear_, run_underlying Try.underlying33, hv, hzc, hst]
end Go.Proofs.Ythnfpdmhjennlaa
namespace Go.Proofs.Ythnfpdmhjennlaa
open Go.RowKit
open Go.Deep
open Go.Lib
set_option linter.unusedVariables false
theorem sizeFl (w : World) : (sizeOf 92).run Try.prog w = .ok 4 w := by kernel_rfl
theorem OX.capM {α : Type} {E : Ek α} {w : World} {L : List α} {g n cap : Nat} (h : OX E w (.slice (some ⟨g, 0, none⟩) n cap) L) : L.length ≤ cap ∧ cap ≤ maxLen := by
  rcases h.2 with ⟨h0, _⟩ | ⟨g', cap', cur, hv, hbg, hg, hnc, hcm, hcs, htake⟩
  · cases h0
  · cases hv
    exact ⟨hnc, hcm⟩
theorem OX.at {α : Type} {E : Ek α} {w : World} {L : List α} {g n cap : Nat} (h : OX E w (.slice (some ⟨g, 0, none⟩) n cap) L) (p : Nat) (u : Value) (hu : (flatE E L)[p]? = some u) : w.cell? ⟨g, p, none⟩ = some u := by
  rcases h.2 with ⟨h0, _⟩ | ⟨g', cap', cur, hv, hbg, hg, hnc, hcm, hcs, htake⟩
  · cases h0
  · cases hv
    have hp := (List.getElem?_eq_some_iff.1 hu).1
    rw [← htake, List.getElem?_take] at hu
    rw [flatE_len] at hp
    rw [if_pos hp, Array.getElem?_toList] at hu
    rw [cell_of_row _ _ _ _ _ _ hg]
    exact hu
theorem drop_flat (P : List Fl) (k j : Nat) (hk : k ≤ P.length) : (flatE KFl (P.drop k))[j]? = (flatE KFl P)[k * 4 + j]? := by
  have e : flatE KFl P = flatE KFl (P.take k) ++ flatE KFl (P.drop k) := by rw [← flatE_app, List.take_append_drop]
  have hl : (flatE KFl (P.take k)).length = k * 4 := by rw [flatE_len, List.length_take, Nat.min_eq_left hk]; rfl
  rw [e, List.getElem?_append_right (by omega), hl, Nat.add_sub_cancel_left]
theorem step_appR {w w' : World} {ops : Array Oper} {o : Oper} {a : Act} {K : Act → World → Prop} {Q : Exit → Act → World → Prop} {E0 : Prop} (hgd : o.guard = none) (s x : Operand) (t : TypeId) (ho : o.op = .call { callee := .builtin .append, args := #[s, x], argTypes := #[t, t] }) (vs vx v' : Value) (hs : a.eval s = vs) (hx : a.eval x = vx) (hr : (Builtin.append_ #[t, t] o.type #[vs, vx]).run Try.prog w = .ok v' w') (hk : K (a.put o.dst v') w') : if Region.wanted o (yielded ops a.tmps) = true then Oper.wp Try.prog o a w K Q else E0 := by
  have hw : Region.wanted o (yielded ops a.tmps) = true := by simp [Region.wanted, hgd]
  rw [if_pos hw]
  unfold Oper.wp execOp
  simp only [ho, resolve, invoke, builtin, Sem.run_bind, Sem.run_pure, Result.andThen_ok, List.map_toArray, List.map_cons, List.map_nil, hs, hx, hr]
  exact hk
section
set_option maxRecDepth 10000
set_option maxHeartbeats 2000000
theorem delete_any (P : List Fl) (g cap i : Nat) (w : World) (h : OX KFl w (.slice (some ⟨g, 0, none⟩) P.length cap) P) (hi : i < P.length) : Calls Try.prog 53 #[.slice (some ⟨g, 0, none⟩) P.length cap, .int .i64 (i : Int), .int .i64 ((i : Int) + 1)] w fun e w' => e = .returned (.slice (some ⟨g, 0, none⟩) (P.length - 1) cap) ∧ OX KFl w' (.slice (some ⟨g, 0, none⟩) (P.length - 1) cap) (P.eraseIdx i) ∧ Rfr g w w' := by
  have hc := h.capM
  have hm : maxLen = 9223372036854775807 := rfl
  rw [hm] at hc
  have k0 : (0 : Int) ≤ (i : Int) := by omega
  have k1 : (i : Int) ≤ (P.length : Int) := by omega
  have k2 : (i : Int) + 1 ≤ (P.length : Int) := by omega
  have k3 : (P.length : Int) ≤ (cap : Int) := by omega
  have k4 : ¬ (i : Int) = (i : Int) + 1 := by omega
  have k5 := sizeFl
  have H := hide h
  clear h
  go_enter Try.func53, Try.ntmps53
  go_upto_region 5 with fail
  obtain ⟨ad, hsl, hnw⟩ : ∃ ad : Addr, (∀ W, (Instr.sliceAt 33 (.slice (some ⟨g, 0, none⟩) P.length cap) (some (.int .i64 ((i : Int) + 1))) none none).run Try.prog W = .ok (.slice (some ad) (P.length - (i + 1)) (cap - (i + 1))) W) ∧ Hid (∀ j u, (flatE KFl (P.drop (i + 1)))[j]? = some u → w.drew.cell? (ad.add j) = some u) := by
    by_cases hcap : cap = i + 1
    · refine ⟨⟨g, 0, none⟩, fun W => ?_, fun j u hu => ?_⟩
      · go_simp <;> (intros; omega)
      · have : P.drop (i + 1) = [] := List.drop_of_length_le (by omega)
        rw [this] at hu
        cases hu
    · refine ⟨⟨g, (i + 1) * 4, none⟩, fun W => ?_, fun j u hu => ?_⟩
      · go_simp <;> (intros; omega)
      · rw [drop_flat P (i + 1) j (by omega)] at hu
        have hadd : (⟨g, (i + 1) * 4, none⟩ : Addr).add j = ⟨g, (i + 1) * 4 + j, none⟩ := by unfold Addr.add; split <;> simp_all
        rw [hadd]
        exact H.out.at _ _ hu
  have HN := hide hsl
  have LN := hide (show (flatE KFl (P.drop (i + 1))).length = (P.length - (i + 1)) * KFl.k by rw [flatE_len, List.length_drop])
  have HD : Hid (OX KFl w.drew (.slice (some ⟨g, 0, none⟩) i cap) (P.take i)) := H.out.cut i (by omega)
  have LI := hide (show (P.take i).length = i by rw [List.length_take]; omega)
  have RM := hide (show i + (P.length - (i + 1)) ≤ cap by omega)
  have NM := hide (show i + (P.length - (i + 1)) = P.length - 1 by omega)
  have FD := hide (Rfr.drew g w)
  clear hsl
  refine wp_region_held_drew (S := fun W => True) (by kernel_rfl) trivial (fun hH => ?_)
  generalize w.drew = W1 at *
  refine wpAnyH_take (i := 0) (v := (.slice (some ⟨g, 0, none⟩) P.length cap)) rfl (by kernel_rfl) (by kernel_rfl) (by kernel_rfl) (fun _ _ _ h => h) (yl_move (by rfl) _ (by rfl) _ (by rfl)) hH ?_
  change wpAnyH _ _ _ _ _ _ _ (Act.put _ (some 20) _) _
  simp only [Act.put, List.setIfInBounds_toArray, List.set_cons_zero, List.set_cons_succ]
  refine wpAnyH_take (i := 1) (v := (.int .i64 (i : Int))) rfl (by kernel_rfl) (by kernel_rfl) (by kernel_rfl) (fun _ _ _ h => h) (yl_move (by rfl) _ (by rfl) _ (by rfl)) hH ?_
  change wpAnyH _ _ _ _ _ _ _ (Act.put _ (some 21) _) _
  simp only [Act.put, List.setIfInBounds_toArray, List.set_cons_zero, List.set_cons_succ]
  refine wpAnyH_take (i := 2) (v := (.slice (some ⟨g, 0, none⟩) i cap)) rfl (by kernel_rfl) (by kernel_rfl) (by kernel_rfl) (fun _ _ _ h => h) (.inl ⟨by rfl, fun W _ => by go_simp <;> (intros; omega)⟩) hH ?_
  change wpAnyH _ _ _ _ _ _ _ (Act.put _ (some 22) _) _
  simp only [Act.put, List.setIfInBounds_toArray, List.set_cons_zero, List.set_cons_succ]
  refine wpAnyH_take (i := 3) (v := (.slice (some ⟨g, 0, none⟩) P.length cap)) rfl (by kernel_rfl) (by kernel_rfl) (by kernel_rfl) (fun _ _ _ h => h) (yl_move (by rfl) _ (by rfl) _ (by rfl)) hH ?_
  change wpAnyH _ _ _ _ _ _ _ (Act.put _ (some 23) _) _
  simp only [Act.put, List.setIfInBounds_toArray, List.set_cons_zero, List.set_cons_succ]
  refine wpAnyH_take (i := 4) (v := (.int .i64 ((i : Int) + 1))) rfl (by kernel_rfl) (by kernel_rfl) (by kernel_rfl) (fun _ _ _ h => h) (yl_move (by rfl) _ (by rfl) _ (by rfl)) hH ?_
  change wpAnyH _ _ _ _ _ _ _ (Act.put _ (some 24) _) _
  simp only [Act.put, List.setIfInBounds_toArray, List.set_cons_zero, List.set_cons_succ]
  refine wpAnyH_take (i := 5) (v := (.slice (some ad) (P.length - (i + 1)) (cap - (i + 1)))) rfl (by kernel_rfl) (by kernel_rfl) (by kernel_rfl) (fun _ _ _ h => h) (yl_slice (by rfl) _ _ _ (by rfl) _ _ (by rfl) _ _ (by rfl) (by rfl) HN.out) hH ?_
  change wpAnyH _ _ _ _ _ _ _ (Act.put _ (some 25) _) _
  simp only [Act.put, List.setIfInBounds_toArray, List.set_cons_zero, List.set_cons_succ]
  refine wpAnyH_ready (rs := [6]) (by kernel_rfl) (by simp) (AllReadyH.cons rfl (fun K1 hK1 => ?_) AllReadyH.nil)
  obtain ⟨i0, z0, hi0, hz0, hzs, hz1, hz2⟩ := KFl.parts
  obtain ⟨W2, hr, ho2, hg2⟩ := run_append_own_spare (P := Try.prog) W1 0 33 33 92 i0 4 KFl.sl hi0 hz1 g i cap (flatE KFl (P.take i)) (by have := HD.out; unfold OX at this; rw [LI.out] at this; exact this) ad (P.length - (i + 1)) (cap - (i + 1)) (flatE KFl (P.drop (i + 1))) LN.out hnw.out (flatE_cell KFl _) RM.out
  rw [NM.out] at hr ho2
  have O2 : Hid (OX KFl W2 (.slice (some ⟨g, 0, none⟩) (P.length - 1) cap) (P.eraseIdx i)) := by
    show OX _ _ _ _
    unfold OX
    rw [List.eraseIdx_eq_take_drop_succ, flatE_app, show (P.take i ++ P.drop (i + 1)).length = P.length - 1 by rw [List.length_append, LI.out, List.length_drop]; omega]
    exact ho2
  have F2 : Hid (Rfr g w W2) := FD.out.trans ⟨hg2.os, hg2.tape, hg2.output, hg2.size, fun k hk hn => hg2.block k hk (fun e => hn (Option.some.inj e))⟩
  clear ho2 hg2 hi0 hz0 hzs hz1 hz2 HD HN hnw LN FD RM
  refine step_appR (by rfl) _ _ 33 (by rfl) _ _ (.slice (some ⟨g, 0, none⟩) (P.length - 1) cap) (by rfl) (by rfl) hr ?_
  clear hr
  refine hK1.out _ _ trivial (fun hH => ?_)
  clear hK1
  change wpAnyH _ _ _ _ _ _ _ (Act.put _ (some 26) _) _
  simp only [Act.put, List.setIfInBounds_toArray, List.set_cons_zero, List.set_cons_succ]
  refine wpAnyH_ready (rs := [7]) (by kernel_rfl) (by simp) (AllReadyH.cons rfl (fun K1 hK1 => ?_) AllReadyH.nil)
  go_simp
  refine hK1.out _ _ trivial (fun hH => ?_)
  clear hK1
  refine wpAnyH_done (by kernel_rfl) ?_ _
  clear hH
  have LE := hide (show (P.eraseIdx i).length = P.length - 1 by rw [List.length_eraseIdx, if_pos hi])
  have hcl : ∀ ty, (Builtin.clear_ #[33] ty #[.slice (some ⟨g, (P.length - 1) * 4, none⟩) (P.length - (P.length - 1)) (cap - (P.length - 1))]).run Try.prog W2 = .ok (.tuple #[]) (W2.setCells g ((P.length - 1) * 4) [.int .i64 0, .int .i64 0, .int .i64 0, .bool false]) := fun ty => by
    rw [show P.length - (P.length - 1) = 1 by omega]
    exact clear_fall W2 ty g _ _ (fun j hj => O2.out.there _ (show (P.length - 1) * 4 + j < cap * 4 by omega))
  have O3 : Hid (OX KFl (W2.setCells g ((P.length - 1) * 4) [.int .i64 0, .int .i64 0, .int .i64 0, .bool false]) (.slice (some ⟨g, 0, none⟩) (P.length - 1) cap) (P.eraseIdx i)) := by
    have hle : (P.eraseIdx i).length * KFl.k = (P.length - 1) * 4 := by rw [LE.out]; rfl
    exact (((O2.out.behind ((P.length - 1) * 4) (by omega) _).behind ((P.length - 1) * 4 + 1) (by omega) _).behind ((P.length - 1) * 4 + 1 + 1) (by omega) _).behind ((P.length - 1) * 4 + 1 + 1 + 1) (by omega) _
  have F3 := hide (F2.out.trans (Rfr.setCells g [.int .i64 0, .int .i64 0, .int .i64 0, .bool false] ((P.length - 1) * 4) W2))
  go_upto_region 7 with fail
  clear hcl O2 F2
  generalize W2.setCells g ((P.length - 1) * 4) [.int .i64 0, .int .i64 0, .int .i64 0, .bool false] = W3 at *
  go_wp2
  go_ret
  exact ⟨rfl, O3.out, F3.out⟩
end
end Go.Proofs.Ythnfpdmhjennlaa
