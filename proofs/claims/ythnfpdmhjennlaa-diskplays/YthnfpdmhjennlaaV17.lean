/- Disks: slices.Clone of falls and of changes; Plan, Changes, Part; the errors of Move. Disks: Part, Changes; the errors of Move. Disks: Part whole; a copy of no files. Disks: a copy of files, whether there is a map or none. -/
import Derived.Test.YthnfpdmhjennlaaV16
import Derived.Test.YthnfpdmhjennlaaV07
namespace Go.Proofs.Ythnfpdmhjennlaa
open Go.RowKit
open Go.Deep
open Go.Lib
set_option linter.unusedVariables false
/-- Changes as a list. -/
def KCh : Ek Ch := ⟨40, 81, 5, 64, fun c => (chv c).toList, by decide, by decide, Try.underlying40, by kernel_rfl, fun _ => rfl, fun x v hv => by
  have := Array.all_eq_true_iff_forall_mem.1 (chv_one x) v (by simpa using hv)
  exact this⟩
theorem chs_flat (L : List Ch) : chs L = flatE KCh L := by
  unfold chs flatE
  rw [List.flatMap_def]
  rfl
section
variable {α : Type} {E : Ek α} {w : World}
theorem LX.news {ad : Addr} {n c : Nat} {L : List α} (h : LX E w (.slice (some ad) n c) L) : ∀ j u, (flatE E L)[j]? = some u → w.cell? (ad.add j) = some u := by
  intro j u hu
  have hj := (List.getElem?_eq_some_iff.1 hu).1
  rw [flatE_len] at hj
  have hk := E.kpos
  have hi : j / E.k < L.length := Nat.div_lt_of_lt_mul (by rw [Nat.mul_comm]; exact hj)
  have hr : j % E.k < E.k := Nat.mod_lt _ hk
  have e1 := flatE_at E L (j / E.k) hi (j % E.k) hr
  rw [show j / E.k * E.k + j % E.k = j by rw [Nat.mul_comm]; exact Nat.div_add_mod j E.k] at e1
  obtain ⟨g, off, e⟩ := h.base (Nat.lt_of_le_of_lt (Nat.zero_le _) hi)
  cases e
  have := h.range (j / E.k) hi (j % E.k) u (by rw [← e1]; exact hu)
  rw [show off + j / E.k * E.k + j % E.k = off + j by rw [Nat.add_assoc, Nat.mul_comm, Nat.div_add_mod]] at this
  have hadd : (⟨g, off, none⟩ : Addr).add j = ⟨g, off + j, none⟩ := by unfold Addr.add; split <;> simp_all
  rw [hadd]
  exact this
end
section
variable {α : Type} {w : World} {ops : Array Oper} {rest : List Oper} {o : Oper} {a : Act} {Q : Exit → Act → World → Prop}
theorem Ek.wpApp (E : Ek α) (hgd : o.guard = none) (x y : Operand)
    (ho : o.op = .call { callee := .builtin .append, args := #[x, y], argTypes := #[E.t, E.t] })
    (v : Value) (L : List α) (hx : a.eval x = v) (hown : OX E w v L)
    (ad : Addr) (n c : Nat) (N : List α) (hn : n = N.length) (hy : a.eval y = .slice (some ad) n c) (hnews : ∀ j u, (flatE E N)[j]? = some u → w.cell? (ad.add j) = some u) (hsm : (L.length + n) * E.b ≤ 140737488355328) (h63 : L.length + n ≤ maxLen)
    (h : ∀ v' w', OX E w' v' (L ++ N) → Onto w w' v v' → wpList Try.prog ops Q rest (a.put o.dst v') w') :
    wpList Try.prog ops Q (o :: rest) a w := by
  refine wpList_plain hgd fun K hK => ?_
  obtain ⟨v', w', hr, h2, h3⟩ := E.app (ty := o.type) hown ad n c N hn hnews hsm h63
  unfold Oper.wp execOp
  simp only [ho, resolve, invoke, builtin, Sem.run_bind, Sem.run_pure, Result.andThen_ok, List.map_toArray, List.map_cons, List.map_nil, hx, hy, hr]
  exact hK _ _ (h v' w' h2 h3)
end
theorem eqslKFl (ao : Option Addr) (n c : Nat) (w : World) : (binOp .eql 33 (.slice ao n c) (.slice none 0 0)).run Try.prog w = .ok (.bool ao.isNone) w := by
  cases ao <;> kernel_rfl
theorem bs0KFl (w : World) : (Instr.buildSlice 33 0 #[]).run Try.prog w = .ok (.slice (some ⟨w.heap.size, 0, none⟩) 0 0) (w.alloc (.cells #[] 92)) := by
  kernel_rfl
theorem eqslKCh (ao : Option Addr) (n c : Nat) (w : World) : (binOp .eql 40 (.slice ao n c) (.slice none 0 0)).run Try.prog w = .ok (.bool ao.isNone) w := by
  cases ao <;> kernel_rfl
theorem bs0KCh (w : World) : (Instr.buildSlice 40 0 #[]).run Try.prog w = .ok (.slice (some ⟨w.heap.size, 0, none⟩) 0 0) (w.alloc (.cells #[] 81)) := by
  kernel_rfl
section
set_option maxRecDepth 10000
set_option maxHeartbeats 4000000
theorem cloneF_any (v : Value) (L : List Fl) (w : World) (h : LX KFl w v L) (hz : L.length * 32 ≤ 140737488355328) : Calls Try.prog 44 #[v] w fun e w' => ∃ v', e = .returned v' ∧ OX KFl w' v' L ∧ Below w.heap.size w w' ∧ ∀ g, v'.ownBlock = some g → w.heap.size ≤ g := by
  obtain ⟨ao, cap, rfl⟩ := h.form
  rcases ao with _ | ad
  · have hL : L = [] := by
      rcases L with _ | ⟨x, r⟩
      · rfl
      · obtain ⟨_, _, e⟩ := h.base (by simp)
        cases e
    subst hL
    have hq := eqslKFl none 0 cap
    clear h
    go_enter Try.func44, Try.ntmps44
    go_wp2
    go_ret
    exact ⟨_, rfl, OX.nil _, Below.refl _ _, fun g hg => by cases hg⟩
  · have hq := eqslKFl (some ad) L.length cap
    have h5 := bs0KFl
    have O0 : Hid (OX KFl (w.alloc (.cells #[] 92)) (.slice (some ⟨w.heap.size, 0, none⟩) 0 0) []) := World.ownsRow_made w #[] 0 (Nat.zero_le _) (Nat.zero_le _) rfl
    have HB := hide ((Below.refl w.heap.size w).alloc (Nat.le_refl _) (.cells #[] 92))
    have HN := hide (LX.news (h.below HB.out))
    have HZ : Hid (([] : List Fl).length + L.length ≤ maxLen ∧ (([] : List Fl).length + L.length) * KFl.b ≤ 140737488355328) := ⟨show 0 + L.length ≤ 9223372036854775807 by omega, show (0 + L.length) * 32 ≤ _ by omega⟩
    clear h hz
    go_enter Try.func44, Try.ntmps44
    go_wp2_with (at_builtin; refine Ek.wpApp KFl rfl _ _ rfl _ [] rfl O0.out ad L.length cap L rfl rfl HN.out HZ.out.2 HZ.out.1 ?_; intro v' w' ho on; have OB := hide (And.intro ho on); clear ho on)
    go_ret
    obtain ⟨o, on⟩ := OB.out
    have hsz : w.heap.size ≤ (w.alloc (.cells #[] 92)).heap.size := HB.out.size
    exact ⟨_, rfl, o, HB.out.trans (on.below hsz (fun k hk => by cases hk; exact Nat.le_refl _)), on.far hsz (fun k hk => by cases hk; exact Nat.le_refl _)⟩
theorem cloneC_any (v : Value) (L : List Ch) (w : World) (h : LX KCh w v L) (hz : L.length * 64 ≤ 140737488355328) : Calls Try.prog 46 #[v] w fun e w' => ∃ v', e = .returned v' ∧ OX KCh w' v' L ∧ Below w.heap.size w w' ∧ ∀ g, v'.ownBlock = some g → w.heap.size ≤ g := by
  obtain ⟨ao, cap, rfl⟩ := h.form
  rcases ao with _ | ad
  · have hL : L = [] := by
      rcases L with _ | ⟨x, r⟩
      · rfl
      · obtain ⟨_, _, e⟩ := h.base (by simp)
        cases e
    subst hL
    have hq := eqslKCh none 0 cap
    clear h
    go_enter Try.func46, Try.ntmps46
    go_wp2
    go_ret
    exact ⟨_, rfl, OX.nil _, Below.refl _ _, fun g hg => by cases hg⟩
  · have hq := eqslKCh (some ad) L.length cap
    have h5 := bs0KCh
    have O0 : Hid (OX KCh (w.alloc (.cells #[] 81)) (.slice (some ⟨w.heap.size, 0, none⟩) 0 0) []) := World.ownsRow_made w #[] 0 (Nat.zero_le _) (Nat.zero_le _) rfl
    have HB := hide ((Below.refl w.heap.size w).alloc (Nat.le_refl _) (.cells #[] 81))
    have HN := hide (LX.news (h.below HB.out))
    have HZ : Hid (([] : List Ch).length + L.length ≤ maxLen ∧ (([] : List Ch).length + L.length) * KCh.b ≤ 140737488355328) := ⟨show 0 + L.length ≤ 9223372036854775807 by omega, show (0 + L.length) * 64 ≤ _ by omega⟩
    clear h hz
    go_enter Try.func46, Try.ntmps46
    go_wp2_with (at_builtin; refine Ek.wpApp KCh rfl _ _ rfl _ [] rfl O0.out ad L.length cap L rfl rfl HN.out HZ.out.2 HZ.out.1 ?_; intro v' w' ho on; have OB := hide (And.intro ho on); clear ho on)
    go_ret
    obtain ⟨o, on⟩ := OB.out
    have hsz : w.heap.size ≤ (w.alloc (.cells #[] 81)).heap.size := HB.out.size
    exact ⟨_, rfl, o, HB.out.trans (on.below hsz (fun k hk => by cases hk; exact Nat.le_refl _)), on.far hsz (fun k hk => by cases hk; exact Nat.le_refl _)⟩
theorem plan_any (gd : Nat) (x : St) (T : Nat → Prop) (v : Value) (P : List Fl) (w : World) (h : DK w gd x T) (hv : LX KFl w v P) (hz : P.length * 32 ≤ 140737488355328) : Calls Try.prog 21 #[.pointer (some ⟨gd, 0, none⟩), v] w fun e w' => (∃ r, e = .returned r) ∧ DK w' gd { x with plan := P } (grow T w w') ∧ Fr T w w' := by
  have HC := hide (cloneF_any v P w hv hz)
  obtain ⟨S1, S2, mn, ms, vo, vp, h⟩ := h
  have H0 := hide h
  obtain ⟨ao0, cc0, rfl⟩ := hv.form
  clear h hv hz
  go_enter Try.func21, Try.ntmps21
  go_wp2_with (go_at_call 44; refine HC.out.mono ?_; rintro e w1 ⟨v', rfl, o, hb, far⟩; obtain ⟨ao, cc, rfl⟩ := o.form; have D1 := hide (H0.out.below hb); have f3 := World.rowIs.frozen D1.out.row 4; have c3 := World.rowIs.cell D1.out.row (i := 4) (by decide); have NP := hide (H0.out.newPlan (w' := w1) (l' := P) (v' := .slice ao P.length cc) (by rw [fls_flat]; exact o) ⟨hb.os, hb.tape, hb.output, hb.size, fun k hk _ => hb.block k hk⟩ (fun g e => .inr (far g e))); clear o hb far)
  exact bodyPost_end (results_none (by kernel_rfl) _ _ _) rfl ⟨⟨_, rfl⟩, ⟨_, _, _, _, _, _, NP.out.1.wide (fun g hg => by rcases hg with hg | hg; exact .inl hg; exact .inr ⟨hg.1, by simpa [World.setCell] using hg.2⟩) (fun g hg => by rcases hg with hg | hg; exact NP.out.1.lt g (.inl hg); exact hg.2)⟩, NP.out.2⟩
end
end Go.Proofs.Ythnfpdmhjennlaa
namespace Go.Proofs.Ythnfpdmhjennlaa
open Go.RowKit
open Go.Deep
open Go.Lib
set_option linter.unusedVariables false
theorem sub_own {w : World} {v : Value} {l : List UInt8} (h : Own w v l) (k n : Nat) (hk : k + n ≤ l.length) : ∃ r, (∀ W, (Instr.sliceAt 77 v (some (.int .i64 (k : Int))) (some (.int .i64 ((k : Int) + n))) none).run Try.prog W = .ok r W) ∧ (convert 77 9 r).run Try.prog w = .ok (.string ⟨((l.drop k).take n).toArray⟩) w := by
  have hsz : ∀ W, (sizeOf 5).run Try.prog W = .ok 1 W := fun W => by kernel_rfl
  rcases h.2 with ⟨rfl, h0⟩ | ⟨g, cap, cur, rfl, hb, hg, hn, hm, hz, ht⟩
  · have : l = [] := List.eq_nil_of_length_eq_zero h0
    subst this
    have hk0 : k = 0 := by simp at hk; omega
    have hn0 : n = 0 := by simp at hk; omega
    subst hk0 hn0
    exact ⟨.slice none 0 0, fun W => by kernel_rfl, run_convert_bytes_nil (P := Try.prog) w 77 5 Try.underlying77 Try.underlying5 0 0 9 Try.underlying9⟩
  · have k0 : (0 : Int) ≤ (k : Int) := by omega
    have k1 : (k : Int) ≤ (k : Int) + n := by omega
    have k2 : (k : Int) + n ≤ (cap : Int) := by omega
    have hl : ((l.drop k).take n).length = n := by rw [List.length_take, List.length_drop]; omega
    by_cases hc : cap = k
    · have hn0 : n = 0 := by omega
      subst hn0
      refine ⟨.slice (some ⟨g, 0, none⟩) 0 (cap - k), fun W => ?_, ?_⟩
      · go_simp <;> (intros; omega)
      · have := run_convert_bytes_back (P := Try.prog) w 77 9 5 ⟨g, 0, none⟩ (cap - k) [] Try.underlying77 Try.underlying5 Try.underlying9 (fun j hj => by simp at hj)
        simpa using this
    · refine ⟨.slice (some ⟨g, k, none⟩) n (cap - k), fun W => ?_, ?_⟩
      · go_simp <;> (intros; omega)
      · have := run_convert_bytes_back (P := Try.prog) w 77 9 5 ⟨g, k, none⟩ (cap - k) ((l.drop k).take n) Try.underlying77 Try.underlying5 Try.underlying9 (fun j hj => by
          have hj' : j < n := by omega
          have e := World.ownsRow.cells h rfl (k + j) (.int .u8 ((l[k + j]'(by omega)).toNat : Int)) (by simp [cellsL, show k + j < l.length by omega])
          have hadd : (⟨g, k, none⟩ : Addr).add j = ⟨g, k + j, none⟩ := by unfold Addr.add; split <;> simp_all
          rw [hadd]
          have hadd0 : (⟨g, 0, none⟩ : Addr).add (k + j) = ⟨g, k + j, none⟩ := by unfold Addr.add; split <;> simp_all
          simp only [List.getElem_take, List.getElem_drop]
          rw [← hadd0]
          exact e)
        rw [hl] at this
        exact this
/-- The error of a move. -/
def mvE (x : St) (a b : ByteArray) : Int := if rdy x.dead [a, b] = 0 then fnd x a else rdy x.dead [a, b]
section
set_option maxRecDepth 10000
set_option maxHeartbeats 4000000
theorem move_err (gd : Nat) (x : St) (T : Nat → Prop) (a b : ByteArray) (w : World) (h : DK w gd x T) (hm : a.size ≤ maxLen) (hmb : b.size ≤ maxLen) (he : mvE x a b ≠ 0) : Calls Try.prog 17 #[.pointer (some ⟨gd, 0, none⟩), .string a, .string b] w fun e w' => e = .returned (.int .i64 (mvE x a b)) ∧ Below w.heap.size w w' := by
  have b0 : Below w.heap.size w (w.alloc (.cells #[.string a, .string b] 9)) := (Below.refl _ _).alloc (Nat.le_refl _) _
  have HF := hide (find_any gd x T a _ (h.below b0) hm)
  have c5 : (w.alloc (.cells #[.string a, .string b] 9)).cell? ⟨gd, 5, none⟩ = some (.bool x.dead) := by
    obtain ⟨S1, S2, mn, ms, vo, vp, hh⟩ := h.below b0
    exact hh.cell 5 (by decide)
  have HR := hide (ready_any gd x.dead w.heap.size 2 [a, b] _ c5 (two_names w a b hm hmb) (by simp))
  rw [show [a, b].length = 2 from rfl] at HR
  have B0 := hide b0
  unfold mvE at he ⊢
  clear h hm hmb b0 c5
  by_cases hr : rdy x.dead [a, b] = 0
  · rw [if_pos hr] at he ⊢
    rw [hr] at HR
    have hf2 : (fnd x a != 0) = true := by simpa using he
    have hf4 : (fnd x a == 0) = false := by simpa using he
    clear hr
    generalize fnd x a = E at *
    go_enter Try.func17, Try.ntmps17
    go_wp2_with (first | (go_at_call 35; refine HR.out.mono ?_; rintro e w1 ⟨rfl, hw⟩; subst w1) | (go_at_call 40; refine HF.out.mono ?_; rintro e w1 ⟨⟨v, rfl, o⟩, hb⟩; have HB := hide (B0.out.trans (hb.mono B0.out.size)); clear hb o))
    go_ret
    exact ⟨rfl, HB.out⟩
  · rw [if_neg hr] at he ⊢
    have hf2 : (rdy x.dead [a, b] != 0) = true := by simpa using hr
    have hf4 : (rdy x.dead [a, b] == 0) = false := by simpa using hr
    clear he HF
    generalize rdy x.dead [a, b] = E at *
    go_enter Try.func17, Try.ntmps17
    go_wp2_with (go_at_call 35; refine HR.out.mono ?_; rintro e w1 ⟨rfl, hw⟩; subst w1)
    go_ret
    exact ⟨rfl, B0.out⟩
theorem changes_any (gd : Nat) (x : St) (T : Nat → Prop) (w : World) (h : DK w gd x T) : Calls Try.prog 27 #[.pointer (some ⟨gd, 0, none⟩)] w fun e w' => e = .returned (.int .i64 (x.made : Int)) ∧ w' = w := by
  obtain ⟨S1, S2, mn, ms, vo, vp, h⟩ := h
  have c3 := h.cell 3 (by decide)
  rw [show dc mn ms vo vp x.made x.dead 3 = .int .i64 (x.made : Int) from rfl] at c3
  clear h
  go_enter Try.func27, Try.ntmps27
  go_wp2
  go_ret
  exact ⟨rfl, rfl⟩
/-- What Part answers. -/
def ptE (x : St) (nm : ByteArray) (k n : Int) : Int := if fnd x nm = 0 then (if k < 0 ∨ n < 0 ∨ ((x.now.at (ls nm)).length : Int) < k ∨ ((x.now.at (ls nm)).length : Int) - k < n then 1 else 0) else fnd x nm
def ptL (x : St) (nm : ByteArray) (k n : Int) : List UInt8 := if ptE x nm k n = 0 then ((x.now.at (ls nm)).drop k.toNat).take n.toNat else []
theorem part_ok (gd : Nat) (x : St) (T : Nat → Prop) (nm : ByteArray) (k n : Nat) (w : World) (h : DK w gd x T) (hm : nm.size ≤ maxLen) (hf : fnd x nm = 0) (hk : k + n ≤ (x.now.at (ls nm)).length) (hb : (x.now.at (ls nm)).length ≤ 16777216) : Calls Try.prog 32 #[.pointer (some ⟨gd, 0, none⟩), .string nm, .int .i64 (k : Int), .int .i64 (n : Int)] w fun e w' => e = .returned (.tuple #[.string ⟨(((x.now.at (ls nm)).drop k).take n).toArray⟩, .int .i64 0]) ∧ Below w.heap.size w w' := by
  have HF := hide (find_any gd x T nm w h hm)
  rw [hf] at HF
  rw [if_pos rfl] at HF
  clear h hm hf
  generalize x.now.at (ls nm) = L at *
  have k0 : ¬ (k : Int) < 0 := by omega
  have n0 : ¬ (n : Int) < 0 := by omega
  have KL : Hid (∀ m : Nat, m = L.length → ¬ (k : Int) > (m : Int) ∧ IntKind.i64.wrap ((m : Int) - k) = (m : Int) - k ∧ ¬ (n : Int) > (m : Int) - k) := fun m e => ⟨by omega, wrapI _ (by omega) (by omega), by omega⟩
  have e2 : IntKind.i64.wrap ((k : Int) + n) = (k : Int) + n := wrapI _ (by omega) (by omega)
  have HK := hide hk
  clear hk hb
  go_enter Try.func32, Try.ntmps32
  go_upto_region 2 with (go_at_call 40; refine HF.out.mono ?_; rintro e w1 ⟨⟨v, rfl, o⟩, hb⟩; have HB := hide hb; obtain ⟨r, s1, s2⟩ := sub_own o k n HK.out; obtain ⟨ao, m, c, rfl, hn⟩ := o.form; have q := KL.out m hn.out; have q1 := q.1; have q2 := q.2.1; have q3 := q.2.2; clear hb o hn q)
  clear HF KL HK
  go_wp2
  go_ret2
  exact ⟨rfl, HB.out⟩
end
end Go.Proofs.Ythnfpdmhjennlaa
namespace Go.Proofs.Ythnfpdmhjennlaa
open Go.RowKit
open Go.Deep
open Go.Lib
set_option linter.unusedVariables false
section
set_option maxRecDepth 10000
set_option maxHeartbeats 4000000
theorem part_none (gd : Nat) (x : St) (T : Nat → Prop) (nm : ByteArray) (k n : Int) (w : World) (h : DK w gd x T) (hm : nm.size ≤ maxLen) (hf : fnd x nm ≠ 0) : Calls Try.prog 32 #[.pointer (some ⟨gd, 0, none⟩), .string nm, .int .i64 k, .int .i64 n] w fun e w' => e = .returned (.tuple #[.string ⟨#[]⟩, .int .i64 (fnd x nm)]) ∧ Below w.heap.size w w' := by
  have HF := hide (find_any gd x T nm w h hm)
  have hf2 : (fnd x nm != 0) = true := by simpa using hf
  have hf4 : (fnd x nm == 0) = false := by simpa using hf
  clear h hm
  generalize fnd x nm = E at *
  go_enter Try.func32, Try.ntmps32
  go_wp2_with (go_at_call 40; refine HF.out.mono ?_; rintro e w1 ⟨⟨v, rfl, o⟩, hb⟩; have HB := hide hb; clear hb; obtain ⟨ao, m, c, rfl, hn⟩ := o.form; clear o hn)
  go_ret2
  exact ⟨rfl, HB.out⟩
theorem part_far (gd : Nat) (x : St) (T : Nat → Prop) (nm : ByteArray) (k n : Int) (w : World) (h : DK w gd x T) (hm : nm.size ≤ maxLen) (hf : fnd x nm = 0) (hb : (x.now.at (ls nm)).length ≤ 16777216) (hk : k < 0 ∨ n < 0 ∨ ((x.now.at (ls nm)).length : Int) < k ∨ ((x.now.at (ls nm)).length : Int) - k < n) : Calls Try.prog 32 #[.pointer (some ⟨gd, 0, none⟩), .string nm, .int .i64 k, .int .i64 n] w fun e w' => e = .returned (.tuple #[.string ⟨#[]⟩, .int .i64 1]) ∧ Below w.heap.size w w' := by
  have HF := hide (find_any gd x T nm w h hm)
  rw [hf] at HF
  rw [if_pos rfl] at HF
  clear h hm hf
  generalize x.now.at (ls nm) = L at *
  by_cases h0 : k < 0
  · clear hk hb
    go_enter Try.func32, Try.ntmps32
    go_wp2_with (go_at_call 40; refine HF.out.mono ?_; rintro e w1 ⟨⟨v, rfl, o⟩, hb⟩; have HB := hide hb; clear hb; obtain ⟨ao, m, c, rfl, hn⟩ := o.form; clear o hn)
    go_ret2
    exact ⟨rfl, HB.out⟩
  · by_cases h1 : n < 0
    · clear hk hb
      go_enter Try.func32, Try.ntmps32
      go_wp2_with (go_at_call 40; refine HF.out.mono ?_; rintro e w1 ⟨⟨v, rfl, o⟩, hb⟩; have HB := hide hb; clear hb; obtain ⟨ao, m, c, rfl, hn⟩ := o.form; clear o hn)
      go_ret2
      exact ⟨rfl, HB.out⟩
    · by_cases h2 : (L.length : Int) < k
      · have KL : Hid (∀ m : Nat, m = L.length → (k : Int) > (m : Int)) := fun m e => by omega
        clear hk hb h2
        go_enter Try.func32, Try.ntmps32
        go_wp2_with (go_at_call 40; refine HF.out.mono ?_; rintro e w1 ⟨⟨v, rfl, o⟩, hb⟩; have HB := hide hb; clear hb; obtain ⟨ao, m, c, rfl, hn⟩ := o.form; have q := KL.out m hn.out; clear o hn)
        go_ret2
        exact ⟨rfl, HB.out⟩
      · have KL : Hid (∀ m : Nat, m = L.length → ¬ (k : Int) > (m : Int) ∧ IntKind.i64.wrap ((m : Int) - k) = (m : Int) - k ∧ (n : Int) > (m : Int) - k) := fun m e => ⟨by omega, wrapI _ (by omega) (by omega), by omega⟩
        clear hk hb h2
        go_enter Try.func32, Try.ntmps32
        go_wp2_with (go_at_call 40; refine HF.out.mono ?_; rintro e w1 ⟨⟨v, rfl, o⟩, hb⟩; have HB := hide hb; clear hb; obtain ⟨ao, m, c, rfl, hn⟩ := o.form; have q := KL.out m hn.out; have q1 := q.1; have q2 := q.2.1; have q3 := q.2.2; clear o hn q)
        go_ret2
        exact ⟨rfl, HB.out⟩
theorem part_any (gd : Nat) (x : St) (T : Nat → Prop) (nm : ByteArray) (k n : Int) (w : World) (h : DK w gd x T) (hm : nm.size ≤ maxLen) (hb : (x.now.at (ls nm)).length ≤ 16777216) : Calls Try.prog 32 #[.pointer (some ⟨gd, 0, none⟩), .string nm, .int .i64 k, .int .i64 n] w fun e w' => e = .returned (.tuple #[.string ⟨(ptL x nm k n).toArray⟩, .int .i64 (ptE x nm k n)]) ∧ Below w.heap.size w w' := by
  by_cases hf : fnd x nm = 0
  · by_cases hk : k < 0 ∨ n < 0 ∨ ((x.now.at (ls nm)).length : Int) < k ∨ ((x.now.at (ls nm)).length : Int) - k < n
    · have e : ptE x nm k n = 1 := by unfold ptE; rw [if_pos hf, if_pos hk]
      unfold ptL
      rw [e]
      exact part_far gd x T nm k n w h hm hf hb hk
    · have e : ptE x nm k n = 0 := by unfold ptE; rw [if_pos hf, if_neg hk]
      unfold ptL
      rw [e, if_pos rfl]
      obtain ⟨k', rfl⟩ := Int.eq_ofNat_of_zero_le (show 0 ≤ k by omega)
      obtain ⟨n', rfl⟩ := Int.eq_ofNat_of_zero_le (show 0 ≤ n by omega)
      exact part_ok gd x T nm k' n' w h hm hf (by omega) hb
  · have e : ptE x nm k n = fnd x nm := by unfold ptE; rw [if_neg hf]
    unfold ptL
    rw [e, if_neg hf]
    exact part_none gd x T nm k n w h hm hf
end
end Go.Proofs.Ythnfpdmhjennlaa
namespace Go.Proofs.Ythnfpdmhjennlaa
open Go.RowKit
open Go.Deep
open Go.Lib
set_option linter.unusedVariables false
section
set_option maxRecDepth 10000
set_option maxHeartbeats 4000000
theorem range_none (W : World) : (Instr.range 39 (.map none)).run Try.prog W = .ok (.pointer (some ⟨W.heap.size, 0, none⟩)) (W.alloc (.mapIter none 0 #[] 0)) := by kernel_rfl
theorem next_none (W : World) (r : Nat) (t : TypeId) (h : W.heap[r]? = some (.mapIter none 0 #[] 0)) : (Instr.next (.pointer (some ⟨r, 0, none⟩)) false t).run Try.prog W = .ok (.tuple #[.bool false]) W := by
  unfold Instr.next
  have hg : (getObj r).run Try.prog W = .ok (.mapIter none 0 #[] 0) W := by
    simp [getObj, Sem.run, h]
  simp only [Sem.run_bind, hg, Result.andThen_ok, Sem.run_pure]
theorem clone_nil (w : World) : Calls Try.prog 45 #[.map none] w fun e w' => ∃ b2 F2, e = .returned (.map (some b2)) ∧ Fs w' b2 F2 FS.none (fun g => w.heap.size ≤ g ∧ g < w'.heap.size) ∧ Below w.heap.size w w' := by
  have hmk := make_some 0
  have hrg := range_none
  have b1 : Below w.heap.size w ((w.alloc (.map #[] 0)).alloc (.mapIter none 0 #[] 0)) := ((Below.refl _ _).alloc (Nat.le_refl _) _).alloc (by simp) _
  have r1 := heap_alloc_last (w.alloc (.map #[] 0)) (.mapIter none 0 #[] 0)
  have hz1 : (w.alloc (.map #[] 0)).heap.size = w.heap.size + 1 := by simp
  have hz2 : ((w.alloc (.map #[] 0)).alloc (.mapIter none 0 #[] 0)).heap.size = w.heap.size + 1 + 1 := by simp
  rw [hz1] at r1
  have hnx := fun t => next_none _ (w.heap.size + 1) t r1
  have C0 : Hid (Fs ((w.alloc (.map #[] 0)).alloc (.mapIter none 0 #[] 0)) w.heap.size (fun _ => none) FS.none (fun g => w.heap.size ≤ g ∧ g < ((w.alloc (.map #[] 0)).alloc (.mapIter none 0 #[] 0)).heap.size)) :=
    ⟨(Mp.made w).of_block (Below.heap_alloc _ _ _ (by omega)), fun _ => rfl, fun k v l _ hv => (by cases hv), fun k v g _ hv => (by cases hv), fun k k' v v' g _ _ hv => (by cases hv), ⟨Nat.le_refl _, by omega⟩, fun g hg => hg.2⟩
  have B1 := hide b1
  clear b1 r1
  go_enter Try.func45, Try.ntmps45
  go_wp2
  try rw [hz1]
  clear hz1 hz2 hmk hrg
  generalize (w.alloc (.map #[] 0)).alloc (.mapIter none 0 #[] 0) = W2 at *
  go_loopw [11] (fun _ wr => wr = W2) (fun _ _ => 0)
  case atStart => exact rfl
  case round =>
    subst hrel
    go_wp2
    go_ret
    exact ⟨_, _, rfl, C0.out, B1.out⟩
end
end Go.Proofs.Ythnfpdmhjennlaa
