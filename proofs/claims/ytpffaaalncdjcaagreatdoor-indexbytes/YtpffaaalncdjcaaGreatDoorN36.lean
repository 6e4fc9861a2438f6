/- Journals: all records, and cutting. -/
import Derived.Test.YtpffaaalncdjcaaGreatDoorN35
namespace Go.Proofs.YtpffaaalncdjcaaGreatDoor
open Go.RowKit
open Go.Deep
open Go.Lib
set_option linter.unusedVariables false
theorem eqslS (ao : Option Addr) (n c : Nat) (w : World) : (binOp .eql 63 (.slice ao n c) (.slice none 0 0)).run Tryz.prog w = .ok (.bool ao.isNone) w := by
  cases ao <;> kernel_rfl
theorem bs0TJ (w : World) : (Instr.buildSlice 63 0 #[]).run Tryz.prog w = .ok (.slice (some ⟨w.heap.size, 0, none⟩) 0 0) (w.alloc (.cells #[] 9)) := by kernel_rfl
theorem LX.newsS {w : World} {ad : Addr} {n c : Nat} {L : List ByteArray} (h : LX KSJ w (.slice (some ad) n c) L) : ∀ j u, (flatE KSJ L)[j]? = some u → w.cell? (ad.add j) = some u := fun j u hj => by
  rw [flatS, List.getElem?_map] at hj
  cases hl : L[j]? with
  | none => rw [hl] at hj; cases hj
  | some s =>
    rw [hl] at hj
    cases hj
    have hlt := (List.getElem?_eq_some_iff.1 hl).1
    obtain ⟨g, off, e⟩ := h.base (by omega)
    cases e
    rw [Addr.add_lit]
    exact h.cellS j s hl
theorem LX.none_nil {w : World} {n c : Nat} {L : List ByteArray} (h : LX KSJ w (.slice none n c) L) : L = [] := by
  cases L with
  | nil => rfl
  | cons a r =>
    obtain ⟨g, off, e⟩ := h.base (by simp)
    cases e
theorem RX.parts {w : World} {v : Value} {L : List ByteArray} (h : RX w v L) : (v = .slice none 0 0 ∧ L = []) ∨ ∃ g c, v = .slice (some ⟨g, 0, none⟩) L.length c ∧ L.length ≤ c ∧ g < w.heap.size ∧ ∀ i s, L[i]? = some s → w.cell? ⟨g, i, none⟩ = some (.string s) := by
  rcases h with h | ⟨g, rfl, hg, hc⟩
  · have hr := h.read
    rcases h.2 with ⟨rfl, h0⟩ | ⟨g, cap, cur, rfl, hb, hg, hn, r⟩
    · exact .inl ⟨rfl, List.eq_nil_of_length_eq_zero h0⟩
    · refine .inr ⟨g, cap, rfl, hn, lt_heap hg, fun i s hi => ?_⟩
      have := hr.cellS i s hi
      rwa [Nat.zero_add] at this
  · exact .inr ⟨g, _, rfl, Nat.le_refl _, hg, hc⟩
theorem RX.cut {w : World} {g : Nat} {L : List ByteArray} (hg : g < w.heap.size) (hc : ∀ i s, L[i]? = some s → w.cell? ⟨g, i, none⟩ = some (.string s)) (n : Nat) (hn : n ≤ L.length) : RX w (.slice (some ⟨g, 0, none⟩) n n) (L.take n) := by
  have e : (L.take n).length = n := by rw [List.length_take]; omega
  refine .inr ⟨g, by rw [e], hg, fun i s hi => hc i s ?_⟩
  rw [List.getElem?_take] at hi
  split at hi
  · exact hi
  · cases hi
theorem sl2S (g m c n : Nat) (h : n ≤ c) (w : World) : (Instr.sliceAt 63 (.slice (some ⟨g, 0, none⟩) m c) none (some (.int .i64 (n : Int))) none).run Tryz.prog w = .ok (.slice (some ⟨g, 0, none⟩) n c) w := by
  have hi : (sizeOf 9).run Tryz.prog w = .ok 1 w := by kernel_rfl
  simp [Instr.sliceAt, Instr.slice, run_underlying Tryz.underlying63, Instr.sliceBounds, Instr.sliceBound, asIntOf, h, Result.andThen, hi, addr_add]
theorem sl3S (g m c n : Nat) (h : n ≤ c) (w : World) : (Instr.sliceAt 63 (.slice (some ⟨g, 0, none⟩) m c) none (some (.int .i64 (n : Int))) (some (.int .i64 (n : Int)))).run Tryz.prog w = .ok (.slice (some ⟨g, 0, none⟩) n n) w := by
  have hi : (sizeOf 9).run Tryz.prog w = .ok 1 w := by kernel_rfl
  simp [Instr.sliceAt, Instr.slice, run_underlying Tryz.underlying63, Instr.sliceBounds, Instr.sliceBound, asIntOf, h, Result.andThen, hi, addr_add]
theorem sl2N (w : World) : (Instr.sliceAt 63 (.slice none 0 0) none (some (.int .i64 0)) none).run Tryz.prog w = .ok (.slice none 0 0) w := by kernel_rfl
theorem sl3N (w : World) : (Instr.sliceAt 63 (.slice none 0 0) none (some (.int .i64 0)) (some (.int .i64 0))).run Tryz.prog w = .ok (.slice none 0 0) w := by kernel_rfl
section
set_option maxRecDepth 10000
set_option maxHeartbeats 2000000
theorem cloneS_any (v : Value) (L : List ByteArray) (w : World) (h : LX KSJ w v L) (hl : L.length ≤ 1099511627776) : Calls Tryz.prog 63 #[v] w fun e w' => ∃ v', e = .returned v' ∧ OX KSJ w' v' L ∧ Below w.heap.size w w' ∧ ∀ g, v'.ownBlock = some g → w.heap.size ≤ g := by
  obtain ⟨ao, cap, rfl⟩ := h.form
  cases ao with
  | none =>
    have e := h.none_nil
    subst e
    have hq := eqslS none 0 cap
    clear h
    show Calls _ _ #[.slice none 0 cap] _ _
    go_enter Tryz.func63, Tryz.ntmps63
    go_wp2
    go_ret
    exact ⟨_, rfl, OX.nil _, Below.refl _ _, fun g hg => by cases hg⟩
  | some ad =>
    have hq := eqslS (some ad) L.length cap
    have h5 := bs0TJ
    have HN := hide h.newsS
    have hB : Below w.heap.size w (w.alloc (.cells #[] 9)) := (Below.refl _ _).alloc (Nat.le_refl _) _
    have HM := hide (h.below hB).newsS
    have HL := hide hl
    have O0 : Hid (OX KSJ (w.alloc (.cells #[] 9)) (.slice (some ⟨w.heap.size, 0, none⟩) 0 0) []) := World.ownsRow_made w #[] 0 (Nat.zero_le _) (Nat.zero_le _) rfl
    have HB := hide hB
    clear h hl hB HN
    go_enter Tryz.func63, Tryz.ntmps63
    go_wp2_with (first | (at_builtin; refine wpAppS rfl _ _ rfl _ [] rfl O0.out ad L.length cap L rfl rfl HM.out (by have := HL.out; simp; omega) (by have := HL.out; unfold maxLen; simp; omega) ?_; intro v' w' ho on; have OB := hide (And.intro ho on); clear ho on))
    go_ret
    obtain ⟨o, on⟩ := OB.out
    have OF := onto_far on (w := w) (fun g hg => by cases hg; exact Nat.le_refl _) HB.out
    exact ⟨_, rfl, by simpa using o, OF.2, OF.1⟩
variable {K : Nat → Prop} {B w : World} {gj gd : Nat} {J : Jr} {x : StD} {T : Nat → Prop} {v : Value}
theorem allJ_any (h : JB K B w gj gd J x T v) (hl : J.recs.length ≤ 1099511627776) : Calls Tryz.prog 26 #[.pointer (some ⟨gj, 0, none⟩)] w fun e w' => ∃ v', e = .returned v' ∧ OX KSJ w' v' J.recs ∧ Below w.heap.size w w' ∧ ∀ g, v'.ownBlock = some g → w.heap.size ≤ g := by
  have HC := hide (cloneS_any v J.recs w h.own.read hl)
  have c3 := h.c3
  clear h hl
  go_enter Tryz.func26, Tryz.ntmps26
  go_wp2_with (go_at_call 63; refine HC.out.mono ?_; rintro e w1 ⟨v', rfl, h1⟩; have H1 := hide h1; clear h1)
  go_ret
  exact ⟨_, rfl, H1.out⟩
theorem cutJ_arg (h : JB K B w gj gd J x T v) (hd : J.dead = false) (n : Int) (hn : n < 0 ∨ (J.recs.length : Int) < n) : Calls Tryz.prog 82 #[.pointer (some ⟨gj, 0, none⟩), .int .i64 n] w fun e w' => e = .returned (.int .i64 1) ∧ w' = w := by
  have HD := hide (deadJ_any h)
  rw [hd] at HD
  have c3 := h.c3
  obtain ⟨ao, cc, rfl⟩ := h.own.form
  clear h hd
  generalize J.recs.length = m at *
  by_cases h0 : n < 0
  · go_enter Tryz.func82, Tryz.ntmps82
    go_wp2_with (go_at_call 59; refine HD.out.mono ?_; rintro e w1 ⟨rfl, hw⟩; subst w1)
    go_ret
    exact ⟨rfl, rfl⟩
  · have h1 : (m : Int) < n := by omega
    clear hn
    go_enter Tryz.func82, Tryz.ntmps82
    go_wp2_with (go_at_call 59; refine HD.out.mono ?_; rintro e w1 ⟨rfl, hw⟩; subst w1)
    go_ret
    exact ⟨rfl, rfl⟩
theorem cutJ_row (n : Nat) {g c : Nat} (hn : n ≤ J.recs.length) (hcc : J.recs.length ≤ c) (hcl : ∀ i s, J.recs[i]? = some s → w.cell? ⟨g, i, none⟩ = some (.string s)) (h : JB K B w gj gd J x T (.slice (some ⟨g, 0, none⟩) J.recs.length c)) (hd : J.dead = false) (hb : flen (dl J.recs) ≤ 16777216) (hV : Vd x) (hp : x.plan = []) (hf : fnd x J.nm = 0) (hnm : isName (lsD J.nm) = true) (hk : flen (dl (J.recs.take n)) ≤ (x.now.at (lsD J.nm)).length) (hmany : x.loose.length < 10000) (hmade : x.made < 1000000) : Calls Tryz.prog 82 #[.pointer (some ⟨gj, 0, none⟩), .int .i64 (n : Int)] w fun e w' => e = .returned (.int .i64 0) ∧ ∃ T' v', JB K B w' gj gd { J with recs := J.recs.take n } (mkC x (ctC J.nm (flen (dl (J.recs.take n))))) T' v' := by
  have HD := hide (deadJ_any h)
  rw [hd] at HD
  have HRX : Hid (∀ W, Below w.heap.size w W → LX KSJ W (.slice (some ⟨g, 0, none⟩) n c) (J.recs.take n)) := fun W b => by
    have hlt : g < w.heap.size := h.own.lt g rfl
    have e : (J.recs.take n).length = n := by rw [List.length_take]; omega
    have := ((RX.cut hlt hcl n hn).below b).read
    obtain ⟨ao, cap, e1, e2, e3⟩ := this
    injection e1 with q1 q2 q3
    subst q1
    exact ⟨_, c, by rw [e], by omega, e3⟩
  have hfl : flen (dl (J.recs.take n)) ≤ 1099511627776 := by
    have := flen_le (dl J.recs) n
    rw [← dl_take] at this
    omega
  have HFL := hide fun W (b : Below w.heap.size w W) => fileLong_any (J.recs.take n) (.slice (some ⟨g, 0, none⟩) n c) W (HRX.out W b) hfl
  have HC := hide fun W (b : Below w.heap.size w W) => dcut_ok gd x T J.nm (flen (dl (J.recs.take n))) W (h.dk.below b) hV hp hf hnm hk hmany hmade
  have HH := hide fun W T' (j : JB K B W gj gd J (mkC x (ctC J.nm (flen (dl (J.recs.take n))))) T' (.slice (some ⟨g, 0, none⟩) J.recs.length c)) => heedJ_any j 0
  have HJ : Hid ({ J with dead := decide ((0 : Int) = 7) } = J) := by
    show _ = _
    rw [show decide ((0 : Int) = 7) = J.dead from hd.symm]
  have HL := hide h.dk.lt
  have s2 := (fun W => sl2S g J.recs.length c n (by omega) W)
  have s3 := (fun W => sl3S g J.recs.length c n (by omega) W)
  have c0 := h.c0
  have c1 := h.c1
  have c3 := h.c3
  have H0 := hide h
  have n0 : (0 : Int) ≤ (n : Int) := by omega
  have n1 : ¬ (J.recs.length : Int) < (n : Int) := by omega
  have HCL := hide hcl
  have HN := hide hn
  clear hcl hn hcc hfl
  clear h hd hb hV hp hf hnm hk hmany hmade
  generalize flen (dl (J.recs.take n)) = F at *
  go_enter Tryz.func82, Tryz.ntmps82
  go_upto_region 5 with (go_at_call 59; refine HD.out.mono ?_; rintro e w1 ⟨rfl, hw⟩; subst w1)
  refine wp_region_held_drew (S := fun W => W.cell? ⟨gj, 0, none⟩ = some (.pointer (some ⟨gd, 0, none⟩)) ∧ W.cell? ⟨gj, 1, none⟩ = some (.string J.nm) ∧ W.cell? ⟨gj, 3, none⟩ = some (.slice (some ⟨g, 0, none⟩) J.recs.length c)) (by kernel_rfl) ⟨c0, c1, c3⟩ (fun hH => ?_)
  refine wpAnyH_take (i := 0) (v := .pointer (some ⟨gj, 0, none⟩)) rfl (by kernel_rfl) (by kernel_rfl) (by kernel_rfl) (fun _ _ _ h => h) (ylD_move (by rfl) _ (by rfl) _ (by rfl)) hH ?_
  change wpAnyH _ _ _ _ _ _ _ (Act.put _ (some 19) _) _
  simp only [Act.put, List.setIfInBounds_toArray, List.set_cons_zero, List.set_cons_succ]
  refine wpAnyH_take (i := 1) (v := .pointer (some ⟨gj, 0, none⟩)) rfl (by kernel_rfl) (by kernel_rfl) (by kernel_rfl) (fun _ _ _ h => h) (ylD_move (by rfl) _ (by rfl) _ (by rfl)) hH ?_
  change wpAnyH _ _ _ _ _ _ _ (Act.put _ (some 20) _) _
  simp only [Act.put, List.setIfInBounds_toArray, List.set_cons_zero, List.set_cons_succ]
  refine wpAnyH_take (i := 2) (v := .pointer (some ⟨gj, 0, none⟩)) rfl (by kernel_rfl) (by kernel_rfl) (by kernel_rfl) (fun _ _ _ h => h) (.inl ⟨by rfl, fun W _ => by go_simp⟩) hH ?_
  change wpAnyH _ _ _ _ _ _ _ (Act.put _ (some 21) _) _
  simp only [Act.put, List.setIfInBounds_toArray, List.set_cons_zero, List.set_cons_succ]
  refine wpAnyH_take (i := 3) (v := .pointer (some ⟨gj, 0, none⟩)) rfl (by kernel_rfl) (by kernel_rfl) (by kernel_rfl) (fun _ _ _ h => h) (.inl ⟨by rfl, fun W _ => by go_simp⟩) hH ?_
  change wpAnyH _ _ _ _ _ _ _ (Act.put _ (some 22) _) _
  simp only [Act.put, List.setIfInBounds_toArray, List.set_cons_zero, List.set_cons_succ]
  refine wpAnyH_take (i := 4) (v := .pointer (some ⟨gd, 0, none⟩)) rfl (by kernel_rfl) (by kernel_rfl) (by kernel_rfl) (fun _ _ _ h => h) (.inl ⟨by rfl, fun W hS => by have c4 := hS.1; go_simp⟩) hH ?_
  change wpAnyH _ _ _ _ _ _ _ (Act.put _ (some 23) _) _
  simp only [Act.put, List.setIfInBounds_toArray, List.set_cons_zero, List.set_cons_succ]
  refine wpAnyH_take (i := 5) (v := .pointer (some ⟨gj, 0, none⟩)) rfl (by kernel_rfl) (by kernel_rfl) (by kernel_rfl) (fun _ _ _ h => h) (ylD_move (by rfl) _ (by rfl) _ (by rfl)) hH ?_
  change wpAnyH _ _ _ _ _ _ _ (Act.put _ (some 24) _) _
  simp only [Act.put, List.setIfInBounds_toArray, List.set_cons_zero, List.set_cons_succ]
  refine wpAnyH_take (i := 6) (v := .pointer (some ⟨gj, 0, none⟩)) rfl (by kernel_rfl) (by kernel_rfl) (by kernel_rfl) (fun _ _ _ h => h) (.inl ⟨by rfl, fun W _ => by go_simp⟩) hH ?_
  change wpAnyH _ _ _ _ _ _ _ (Act.put _ (some 25) _) _
  simp only [Act.put, List.setIfInBounds_toArray, List.set_cons_zero, List.set_cons_succ]
  refine wpAnyH_take (i := 7) (v := .pointer (some ⟨gj, 1, none⟩)) rfl (by kernel_rfl) (by kernel_rfl) (by kernel_rfl) (fun _ _ _ h => h) (.inl ⟨by rfl, fun W _ => by go_simp⟩) hH ?_
  change wpAnyH _ _ _ _ _ _ _ (Act.put _ (some 26) _) _
  simp only [Act.put, List.setIfInBounds_toArray, List.set_cons_zero, List.set_cons_succ]
  refine wpAnyH_take (i := 8) (v := .string J.nm) rfl (by kernel_rfl) (by kernel_rfl) (by kernel_rfl) (fun _ _ _ h => h) (.inl ⟨by rfl, fun W hS => by have c4 := hS.2.1; go_simp⟩) hH ?_
  change wpAnyH _ _ _ _ _ _ _ (Act.put _ (some 27) _) _
  simp only [Act.put, List.setIfInBounds_toArray, List.set_cons_zero, List.set_cons_succ]
  refine wpAnyH_take (i := 9) (v := .pointer (some ⟨gj, 0, none⟩)) rfl (by kernel_rfl) (by kernel_rfl) (by kernel_rfl) (fun _ _ _ h => h) (ylD_move (by rfl) _ (by rfl) _ (by rfl)) hH ?_
  change wpAnyH _ _ _ _ _ _ _ (Act.put _ (some 28) _) _
  simp only [Act.put, List.setIfInBounds_toArray, List.set_cons_zero, List.set_cons_succ]
  refine wpAnyH_take (i := 10) (v := .pointer (some ⟨gj, 0, none⟩)) rfl (by kernel_rfl) (by kernel_rfl) (by kernel_rfl) (fun _ _ _ h => h) (.inl ⟨by rfl, fun W _ => by go_simp⟩) hH ?_
  change wpAnyH _ _ _ _ _ _ _ (Act.put _ (some 29) _) _
  simp only [Act.put, List.setIfInBounds_toArray, List.set_cons_zero, List.set_cons_succ]
  refine wpAnyH_take (i := 11) (v := .pointer (some ⟨gj, 3, none⟩)) rfl (by kernel_rfl) (by kernel_rfl) (by kernel_rfl) (fun _ _ _ h => h) (.inl ⟨by rfl, fun W _ => by go_simp⟩) hH ?_
  change wpAnyH _ _ _ _ _ _ _ (Act.put _ (some 30) _) _
  simp only [Act.put, List.setIfInBounds_toArray, List.set_cons_zero, List.set_cons_succ]
  refine wpAnyH_take (i := 12) (v := .slice (some ⟨g, 0, none⟩) J.recs.length c) rfl (by kernel_rfl) (by kernel_rfl) (by kernel_rfl) (fun _ _ _ h => h) (.inl ⟨by rfl, fun W hS => by have c4 := hS.2.2; go_simp⟩) hH ?_
  change wpAnyH _ _ _ _ _ _ _ (Act.put _ (some 31) _) _
  simp only [Act.put, List.setIfInBounds_toArray, List.set_cons_zero, List.set_cons_succ]
  refine wpAnyH_take (i := 13) (v := .int .i64 (n : Int)) rfl (by kernel_rfl) (by kernel_rfl) (by kernel_rfl) (fun _ _ _ h => h) (ylD_move (by rfl) _ (by rfl) _ (by rfl)) hH ?_
  change wpAnyH _ _ _ _ _ _ _ (Act.put _ (some 32) _) _
  simp only [Act.put, List.setIfInBounds_toArray, List.set_cons_zero, List.set_cons_succ]
  refine wpAnyH_take (i := 14) (v := .slice (some ⟨g, 0, none⟩) n c) rfl (by kernel_rfl) (by kernel_rfl) (by kernel_rfl) (fun _ _ _ h => h) (yl_slice (by rfl) _ _ _ (by rfl) _ _ (by rfl) _ _ (by rfl) (by rfl) s2) hH ?_
  change wpAnyH _ _ _ _ _ _ _ (Act.put _ (some 33) _) _
  simp only [Act.put, List.setIfInBounds_toArray, List.set_cons_zero, List.set_cons_succ]
  refine wpAnyH_ready (rs := [15]) (by kernel_rfl) (by simp) (AllReadyH.cons rfl (fun K1 hK1 => ?_) AllReadyH.nil)
  go_simp
  refine (HFL.out _ (Below.refl _ _).drew).mono ?_
  rintro e w2 ⟨rfl, hw⟩
  subst w2
  refine hK1.out _ _ ⟨c0, c1, c3⟩ (fun hH => ?_)
  clear hK1
  refine wpAnyH_ready (rs := [16]) (by kernel_rfl) (by simp) (AllReadyH.cons rfl (fun K1 hK1 => ?_) AllReadyH.nil)
  go_simp
  refine (HC.out _ (Below.refl _ _).drew).mono ?_
  rintro e w5 ⟨rfl, hd5, hf5⟩
  have J5 := hide (H0.out.disk (dk_grow (Below.refl w.heap.size w).drew HL.out hd5 hf5))
  clear hd5 hf5
  refine hK1.out _ _ ⟨J5.out.c0, J5.out.c1, J5.out.c3⟩ (fun hH => ?_)
  clear hK1
  refine wpAnyH_ready (rs := [17]) (by kernel_rfl) (by simp) (AllReadyH.cons rfl (fun K1 hK1 => ?_) AllReadyH.nil)
  go_simp
  refine (HH.out _ _ J5.out).mono ?_
  rintro e w6 ⟨rfl, j6⟩
  rw [HJ.out] at j6
  have J6 := hide j6
  clear j6
  refine hK1.out _ _ ⟨J6.out.c0, J6.out.c1, J6.out.c3⟩ (fun hH => ?_)
  clear hK1 J5
  refine wpAnyH_take (i := 18) (v := .int .i64 0) rfl (by kernel_rfl) (by kernel_rfl) (by kernel_rfl) (fun _ _ _ h => h) (.inl ⟨by rfl, fun W _ => by go_simp⟩) hH ?_
  change wpAnyH _ _ _ _ _ _ _ (Act.put _ (some 5) _) _
  simp only [Act.put, List.setIfInBounds_toArray, List.set_cons_zero, List.set_cons_succ]
  refine wpAnyH_done (by kernel_rfl) ?_ _
  have a3 := J6.out.c3
  have f3 := J6.out.fz 3
  have FIN : Hid (∃ T' v', JB K B (w6.setCell ⟨gj, 3, none⟩ (.slice (some ⟨g, 0, none⟩) n n)) gj gd { J with recs := J.recs.take n } (mkC x (ctC J.nm F)) T' v') := by
    have hlt : g < w6.heap.size := J6.out.own.lt g rfl
    have hc6 : ∀ i s, J.recs[i]? = some s → w6.cell? ⟨g, i, none⟩ = some (.string s) := fun i s hi => by
      have := J6.out.own.read.cellS i s hi
      rwa [Nat.zero_add] at this
    exact ⟨_, _, J6.out.set 3 (.slice (some ⟨g, 0, none⟩) n n) rfl (RX.cut hlt hc6 n HN.out) (fun k hk => by cases hk; exact J6.out.vfar g rfl)⟩
  clear c0 c1 c3 H0 HC HH HFL s2
  go_wp2
  go_ret
  exact ⟨rfl, FIN.out⟩
theorem cutJ_nil (h0 : J.recs = []) (h : JB K B w gj gd J x T (.slice none 0 0)) (hd : J.dead = false) (hb : flen (dl J.recs) ≤ 16777216) (hV : Vd x) (hp : x.plan = []) (hf : fnd x J.nm = 0) (hnm : isName (lsD J.nm) = true) (hk : flen (dl (J.recs.take 0)) ≤ (x.now.at (lsD J.nm)).length) (hmany : x.loose.length < 10000) (hmade : x.made < 1000000) : Calls Tryz.prog 82 #[.pointer (some ⟨gj, 0, none⟩), .int .i64 0] w fun e w' => e = .returned (.int .i64 0) ∧ ∃ T' v', JB K B w' gj gd { J with recs := J.recs.take 0 } (mkC x (ctC J.nm (flen (dl (J.recs.take 0))))) T' v' := by
  have HD := hide (deadJ_any h)
  rw [hd] at HD
  have hrt : J.recs.take 0 = [] := rfl
  have HFL := hide fun W (b : Below w.heap.size w W) => fileLong_any (J.recs.take 0) (.slice none 0 0) W (by rw [hrt]; exact LX.nil W) (by rw [hrt]; decide)
  have HC := hide fun W (b : Below w.heap.size w W) => dcut_ok gd x T J.nm (flen (dl (J.recs.take 0))) W (h.dk.below b) hV hp hf hnm hk hmany hmade
  have HH := hide fun W T' (j : JB K B W gj gd J (mkC x (ctC J.nm (flen (dl (J.recs.take 0))))) T' (.slice none 0 0)) => heedJ_any j 0
  have HJ : Hid ({ J with dead := decide ((0 : Int) = 7) } = J) := by
    show _ = _
    rw [show decide ((0 : Int) = 7) = J.dead from hd.symm]
  have HL := hide h.dk.lt
  have s2 := sl2N
  have s3 := sl3N
  have c0 := h.c0
  have c1 := h.c1
  have c3 := h.c3
  have H0 := hide h
  have hl0 : J.recs.length = 0 := by rw [h0]; rfl
  clear h hd hb hV hp hf hnm hk hmany hmade
  generalize flen (dl (J.recs.take 0)) = F at *
  go_enter Tryz.func82, Tryz.ntmps82
  go_upto_region 5 with (go_at_call 59; refine HD.out.mono ?_; rintro e w1 ⟨rfl, hw⟩; subst w1)
  refine wp_region_held_drew (S := fun W => W.cell? ⟨gj, 0, none⟩ = some (.pointer (some ⟨gd, 0, none⟩)) ∧ W.cell? ⟨gj, 1, none⟩ = some (.string J.nm) ∧ W.cell? ⟨gj, 3, none⟩ = some (.slice none 0 0)) (by kernel_rfl) ⟨c0, c1, c3⟩ (fun hH => ?_)
  refine wpAnyH_take (i := 0) (v := .pointer (some ⟨gj, 0, none⟩)) rfl (by kernel_rfl) (by kernel_rfl) (by kernel_rfl) (fun _ _ _ h => h) (ylD_move (by rfl) _ (by rfl) _ (by rfl)) hH ?_
  change wpAnyH _ _ _ _ _ _ _ (Act.put _ (some 19) _) _
  simp only [Act.put, List.setIfInBounds_toArray, List.set_cons_zero, List.set_cons_succ]
  refine wpAnyH_take (i := 1) (v := .pointer (some ⟨gj, 0, none⟩)) rfl (by kernel_rfl) (by kernel_rfl) (by kernel_rfl) (fun _ _ _ h => h) (ylD_move (by rfl) _ (by rfl) _ (by rfl)) hH ?_
  change wpAnyH _ _ _ _ _ _ _ (Act.put _ (some 20) _) _
  simp only [Act.put, List.setIfInBounds_toArray, List.set_cons_zero, List.set_cons_succ]
  refine wpAnyH_take (i := 2) (v := .pointer (some ⟨gj, 0, none⟩)) rfl (by kernel_rfl) (by kernel_rfl) (by kernel_rfl) (fun _ _ _ h => h) (.inl ⟨by rfl, fun W _ => by go_simp⟩) hH ?_
  change wpAnyH _ _ _ _ _ _ _ (Act.put _ (some 21) _) _
  simp only [Act.put, List.setIfInBounds_toArray, List.set_cons_zero, List.set_cons_succ]
  refine wpAnyH_take (i := 3) (v := .pointer (some ⟨gj, 0, none⟩)) rfl (by kernel_rfl) (by kernel_rfl) (by kernel_rfl) (fun _ _ _ h => h) (.inl ⟨by rfl, fun W _ => by go_simp⟩) hH ?_
  change wpAnyH _ _ _ _ _ _ _ (Act.put _ (some 22) _) _
  simp only [Act.put, List.setIfInBounds_toArray, List.set_cons_zero, List.set_cons_succ]
  refine wpAnyH_take (i := 4) (v := .pointer (some ⟨gd, 0, none⟩)) rfl (by kernel_rfl) (by kernel_rfl) (by kernel_rfl) (fun _ _ _ h => h) (.inl ⟨by rfl, fun W hS => by have c4 := hS.1; go_simp⟩) hH ?_
  change wpAnyH _ _ _ _ _ _ _ (Act.put _ (some 23) _) _
  simp only [Act.put, List.setIfInBounds_toArray, List.set_cons_zero, List.set_cons_succ]
  refine wpAnyH_take (i := 5) (v := .pointer (some ⟨gj, 0, none⟩)) rfl (by kernel_rfl) (by kernel_rfl) (by kernel_rfl) (fun _ _ _ h => h) (ylD_move (by rfl) _ (by rfl) _ (by rfl)) hH ?_
  change wpAnyH _ _ _ _ _ _ _ (Act.put _ (some 24) _) _
  simp only [Act.put, List.setIfInBounds_toArray, List.set_cons_zero, List.set_cons_succ]
  refine wpAnyH_take (i := 6) (v := .pointer (some ⟨gj, 0, none⟩)) rfl (by kernel_rfl) (by kernel_rfl) (by kernel_rfl) (fun _ _ _ h => h) (.inl ⟨by rfl, fun W _ => by go_simp⟩) hH ?_
  change wpAnyH _ _ _ _ _ _ _ (Act.put _ (some 25) _) _
  simp only [Act.put, List.setIfInBounds_toArray, List.set_cons_zero, List.set_cons_succ]
  refine wpAnyH_take (i := 7) (v := .pointer (some ⟨gj, 1, none⟩)) rfl (by kernel_rfl) (by kernel_rfl) (by kernel_rfl) (fun _ _ _ h => h) (.inl ⟨by rfl, fun W _ => by go_simp⟩) hH ?_
  change wpAnyH _ _ _ _ _ _ _ (Act.put _ (some 26) _) _
  simp only [Act.put, List.setIfInBounds_toArray, List.set_cons_zero, List.set_cons_succ]
  refine wpAnyH_take (i := 8) (v := .string J.nm) rfl (by kernel_rfl) (by kernel_rfl) (by kernel_rfl) (fun _ _ _ h => h) (.inl ⟨by rfl, fun W hS => by have c4 := hS.2.1; go_simp⟩) hH ?_
  change wpAnyH _ _ _ _ _ _ _ (Act.put _ (some 27) _) _
  simp only [Act.put, List.setIfInBounds_toArray, List.set_cons_zero, List.set_cons_succ]
  refine wpAnyH_take (i := 9) (v := .pointer (some ⟨gj, 0, none⟩)) rfl (by kernel_rfl) (by kernel_rfl) (by kernel_rfl) (fun _ _ _ h => h) (ylD_move (by rfl) _ (by rfl) _ (by rfl)) hH ?_
  change wpAnyH _ _ _ _ _ _ _ (Act.put _ (some 28) _) _
  simp only [Act.put, List.setIfInBounds_toArray, List.set_cons_zero, List.set_cons_succ]
  refine wpAnyH_take (i := 10) (v := .pointer (some ⟨gj, 0, none⟩)) rfl (by kernel_rfl) (by kernel_rfl) (by kernel_rfl) (fun _ _ _ h => h) (.inl ⟨by rfl, fun W _ => by go_simp⟩) hH ?_
  change wpAnyH _ _ _ _ _ _ _ (Act.put _ (some 29) _) _
  simp only [Act.put, List.setIfInBounds_toArray, List.set_cons_zero, List.set_cons_succ]
  refine wpAnyH_take (i := 11) (v := .pointer (some ⟨gj, 3, none⟩)) rfl (by kernel_rfl) (by kernel_rfl) (by kernel_rfl) (fun _ _ _ h => h) (.inl ⟨by rfl, fun W _ => by go_simp⟩) hH ?_
  change wpAnyH _ _ _ _ _ _ _ (Act.put _ (some 30) _) _
  simp only [Act.put, List.setIfInBounds_toArray, List.set_cons_zero, List.set_cons_succ]
  refine wpAnyH_take (i := 12) (v := .slice none 0 0) rfl (by kernel_rfl) (by kernel_rfl) (by kernel_rfl) (fun _ _ _ h => h) (.inl ⟨by rfl, fun W hS => by have c4 := hS.2.2; go_simp⟩) hH ?_
  change wpAnyH _ _ _ _ _ _ _ (Act.put _ (some 31) _) _
  simp only [Act.put, List.setIfInBounds_toArray, List.set_cons_zero, List.set_cons_succ]
  refine wpAnyH_take (i := 13) (v := .int .i64 0) rfl (by kernel_rfl) (by kernel_rfl) (by kernel_rfl) (fun _ _ _ h => h) (ylD_move (by rfl) _ (by rfl) _ (by rfl)) hH ?_
  change wpAnyH _ _ _ _ _ _ _ (Act.put _ (some 32) _) _
  simp only [Act.put, List.setIfInBounds_toArray, List.set_cons_zero, List.set_cons_succ]
  refine wpAnyH_take (i := 14) (v := .slice none 0 0) rfl (by kernel_rfl) (by kernel_rfl) (by kernel_rfl) (fun _ _ _ h => h) (yl_slice (by rfl) _ _ _ (by rfl) _ _ (by rfl) _ _ (by rfl) (by rfl) s2) hH ?_
  change wpAnyH _ _ _ _ _ _ _ (Act.put _ (some 33) _) _
  simp only [Act.put, List.setIfInBounds_toArray, List.set_cons_zero, List.set_cons_succ]
  refine wpAnyH_ready (rs := [15]) (by kernel_rfl) (by simp) (AllReadyH.cons rfl (fun K1 hK1 => ?_) AllReadyH.nil)
  go_simp
  refine (HFL.out _ (Below.refl _ _).drew).mono ?_
  rintro e w2 ⟨rfl, hw⟩
  subst w2
  refine hK1.out _ _ ⟨c0, c1, c3⟩ (fun hH => ?_)
  clear hK1
  refine wpAnyH_ready (rs := [16]) (by kernel_rfl) (by simp) (AllReadyH.cons rfl (fun K1 hK1 => ?_) AllReadyH.nil)
  go_simp
  refine (HC.out _ (Below.refl _ _).drew).mono ?_
  rintro e w5 ⟨rfl, hd5, hf5⟩
  have J5 := hide (H0.out.disk (dk_grow (Below.refl w.heap.size w).drew HL.out hd5 hf5))
  clear hd5 hf5
  refine hK1.out _ _ ⟨J5.out.c0, J5.out.c1, J5.out.c3⟩ (fun hH => ?_)
  clear hK1
  refine wpAnyH_ready (rs := [17]) (by kernel_rfl) (by simp) (AllReadyH.cons rfl (fun K1 hK1 => ?_) AllReadyH.nil)
  go_simp
  refine (HH.out _ _ J5.out).mono ?_
  rintro e w6 ⟨rfl, j6⟩
  rw [HJ.out] at j6
  have J6 := hide j6
  clear j6
  refine hK1.out _ _ ⟨J6.out.c0, J6.out.c1, J6.out.c3⟩ (fun hH => ?_)
  clear hK1 J5
  refine wpAnyH_take (i := 18) (v := .int .i64 0) rfl (by kernel_rfl) (by kernel_rfl) (by kernel_rfl) (fun _ _ _ h => h) (.inl ⟨by rfl, fun W _ => by go_simp⟩) hH ?_
  change wpAnyH _ _ _ _ _ _ _ (Act.put _ (some 5) _) _
  simp only [Act.put, List.setIfInBounds_toArray, List.set_cons_zero, List.set_cons_succ]
  refine wpAnyH_done (by kernel_rfl) ?_ _
  have a3 := J6.out.c3
  have f3 := J6.out.fz 3
  have FIN : Hid (∃ T' v', JB K B (w6.setCell ⟨gj, 3, none⟩ (.slice none 0 0)) gj gd { J with recs := J.recs.take 0 } (mkC x (ctC J.nm F)) T' v') := ⟨_, _, J6.out.set 3 (.slice none 0 0) rfl (.inl (OX.nil _)) (fun g hg => by cases hg)⟩
  clear c0 c1 c3 H0 HC HH HFL s2
  go_wp2
  go_ret
  exact ⟨rfl, FIN.out⟩
end
end Go.Proofs.YtpffaaalncdjcaaGreatDoor
