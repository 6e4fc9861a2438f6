/- slices.Clone of outputs, inputs and transactions: the contracts. tx.Paid and the document's Paid: their contracts. tx.isNull, tx.Base and the document's Base: their contracts. block.Coinbase: its contracts. -/
import Derived.Test.YtcoojkpimbddlaaGreatDoorP0
import Derived.Test.YtcoojkpimbddlaaGreatDoorX21
import Derived.Test.YtcoojkpimbddlaaGreatDoorX19
import Derived.Test.YtcoojkpimbddlaaGreatDoorX08
namespace Go.Proofs.YtcoojkpimbddlaaGreatDoor
open Go.RowKit
open Go.Deep
set_option linter.unusedVariables false
/-! ### Out -/
theorem eqslO (ao : Option Addr) (n c : Nat) (w : World) : (binOp .eql 150 (.slice ao n c) (.slice none 0 0)).run Tryz.prog w = .ok (.bool ao.isNone) w := by
  cases ao <;> kernel_rfl
theorem bs0O (w : World) : (Instr.buildSlice 150 0 #[]).run Tryz.prog w = .ok (.slice (some ⟨w.heap.size, 0, none⟩) 0 0) (w.alloc (.cells #[] 156)) := by
  kernel_rfl
section
set_option maxRecDepth 10000
set_option maxHeartbeats 4000000
theorem cloneO_any (v : Value) (L : List Tu) (w : World) (h : LX KO w v L) (hz : L.length * 24 ≤ 140737488355328) : Calls Tryz.prog 144 #[v] w fun e w' => ∃ v', e = .returned v' ∧ OX KO w' v' L ∧ Below w.heap.size w w' ∧ ∀ g, v'.ownBlock = some g → w.heap.size ≤ g := by
  obtain ⟨ao, cap, rfl⟩ := h.form
  rcases ao with _ | ad
  · have hL : L = [] := by
      rcases L with _ | ⟨x, r⟩
      · rfl
      · obtain ⟨_, _, e⟩ := h.base (by simp)
        cases e
    subst hL
    have hq := eqslO none 0 cap
    clear h
    go_enter Tryz.func144, Tryz.ntmps144
    go_wp2
    go_ret
    exact ⟨_, rfl, OX.nil _, Below.refl _ _, fun g hg => by cases hg⟩
  · have hq := eqslO (some ad) L.length cap
    have h5 := bs0O
    have O0 : Hid (OX KO (w.alloc (.cells #[] 156)) (.slice (some ⟨w.heap.size, 0, none⟩) 0 0) []) := World.ownsRow_made w #[] 0 (Nat.zero_le _) (Nat.zero_le _) rfl
    have HB := hide ((Below.refl w.heap.size w).alloc (Nat.le_refl _) (.cells #[] 156))
    have HN := hide (LX.news (h.below HB.out))
    have HZ : Hid (([] : List Tu).length + L.length ≤ maxLen ∧ (([] : List Tu).length + L.length) * KO.b ≤ 140737488355328) := ⟨show 0 + L.length ≤ 9223372036854775807 by omega, show (0 + L.length) * 24 ≤ _ by omega⟩
    clear h hz
    go_enter Tryz.func144, Tryz.ntmps144
    go_wp2_with (at_builtin; refine Ek.wpApp KO rfl _ _ rfl _ [] rfl O0.out ad L.length cap L rfl rfl HN.out HZ.out.2 HZ.out.1 ?_; intro v' w' ho on; have OB := hide (And.intro ho on); clear ho on)
    go_ret
    obtain ⟨o, on⟩ := OB.out
    have hsz : w.heap.size ≤ (w.alloc (.cells #[] 156)).heap.size := HB.out.size
    exact ⟨_, rfl, o, HB.out.trans (on.below hsz (fun k hk => by cases hk; exact Nat.le_refl _)), on.far hsz (fun k hk => by cases hk; exact Nat.le_refl _)⟩
end
/-! ### In -/
theorem eqslA (ao : Option Addr) (n c : Nat) (w : World) : (binOp .eql 149 (.slice ao n c) (.slice none 0 0)).run Tryz.prog w = .ok (.bool ao.isNone) w := by
  cases ao <;> kernel_rfl
theorem bs0A (w : World) : (Instr.buildSlice 149 0 #[]).run Tryz.prog w = .ok (.slice (some ⟨w.heap.size, 0, none⟩) 0 0) (w.alloc (.cells #[] 162)) := by
  kernel_rfl
section
set_option maxRecDepth 10000
set_option maxHeartbeats 4000000
theorem cloneA_any (v : Value) (L : List Ti) (w : World) (h : LX KA w v L) (hz : L.length * 64 ≤ 140737488355328) : Calls Tryz.prog 169 #[v] w fun e w' => ∃ v', e = .returned v' ∧ OX KA w' v' L ∧ Below w.heap.size w w' ∧ ∀ g, v'.ownBlock = some g → w.heap.size ≤ g := by
  obtain ⟨ao, cap, rfl⟩ := h.form
  rcases ao with _ | ad
  · have hL : L = [] := by
      rcases L with _ | ⟨x, r⟩
      · rfl
      · obtain ⟨_, _, e⟩ := h.base (by simp)
        cases e
    subst hL
    have hq := eqslA none 0 cap
    clear h
    go_enter Tryz.func169, Tryz.ntmps169
    go_wp2
    go_ret
    exact ⟨_, rfl, OX.nil _, Below.refl _ _, fun g hg => by cases hg⟩
  · have hq := eqslA (some ad) L.length cap
    have h5 := bs0A
    have O0 : Hid (OX KA (w.alloc (.cells #[] 162)) (.slice (some ⟨w.heap.size, 0, none⟩) 0 0) []) := World.ownsRow_made w #[] 0 (Nat.zero_le _) (Nat.zero_le _) rfl
    have HB := hide ((Below.refl w.heap.size w).alloc (Nat.le_refl _) (.cells #[] 162))
    have HN := hide (LX.news (h.below HB.out))
    have HZ : Hid (([] : List Ti).length + L.length ≤ maxLen ∧ (([] : List Ti).length + L.length) * KA.b ≤ 140737488355328) := ⟨show 0 + L.length ≤ 9223372036854775807 by omega, show (0 + L.length) * 64 ≤ _ by omega⟩
    clear h hz
    go_enter Tryz.func169, Tryz.ntmps169
    go_wp2_with (at_builtin; refine Ek.wpApp KA rfl _ _ rfl _ [] rfl O0.out ad L.length cap L rfl rfl HN.out HZ.out.2 HZ.out.1 ?_; intro v' w' ho on; have OB := hide (And.intro ho on); clear ho on)
    go_ret
    obtain ⟨o, on⟩ := OB.out
    have hsz : w.heap.size ≤ (w.alloc (.cells #[] 162)).heap.size := HB.out.size
    exact ⟨_, rfl, o, HB.out.trans (on.below hsz (fun k hk => by cases hk; exact Nat.le_refl _)), on.far hsz (fun k hk => by cases hk; exact Nat.le_refl _)⟩
end
/-! ### Tx -/
theorem eqslT (ao : Option Addr) (n c : Nat) (w : World) : (binOp .eql 60 (.slice ao n c) (.slice none 0 0)).run Tryz.prog w = .ok (.bool ao.isNone) w := by
  cases ao <;> kernel_rfl
theorem bs0T (w : World) : (Instr.buildSlice 60 0 #[]).run Tryz.prog w = .ok (.slice (some ⟨w.heap.size, 0, none⟩) 0 0) (w.alloc (.cells #[] 152)) := by
  kernel_rfl
section
set_option maxRecDepth 10000
set_option maxHeartbeats 4000000
theorem cloneT_any (v : Value) (L : List Tq) (w : World) (h : LX KT w v L) (hz : L.length * 64 ≤ 140737488355328) : Calls Tryz.prog 168 #[v] w fun e w' => ∃ v', e = .returned v' ∧ OX KT w' v' L ∧ Below w.heap.size w w' ∧ ∀ g, v'.ownBlock = some g → w.heap.size ≤ g := by
  obtain ⟨ao, cap, rfl⟩ := h.form
  rcases ao with _ | ad
  · have hL : L = [] := by
      rcases L with _ | ⟨x, r⟩
      · rfl
      · obtain ⟨_, _, e⟩ := h.base (by simp)
        cases e
    subst hL
    have hq := eqslT none 0 cap
    clear h
    go_enter Tryz.func168, Tryz.ntmps168
    go_wp2
    go_ret
    exact ⟨_, rfl, OX.nil _, Below.refl _ _, fun g hg => by cases hg⟩
  · have hq := eqslT (some ad) L.length cap
    have h5 := bs0T
    have O0 : Hid (OX KT (w.alloc (.cells #[] 152)) (.slice (some ⟨w.heap.size, 0, none⟩) 0 0) []) := World.ownsRow_made w #[] 0 (Nat.zero_le _) (Nat.zero_le _) rfl
    have HB := hide ((Below.refl w.heap.size w).alloc (Nat.le_refl _) (.cells #[] 152))
    have HN := hide (LX.news (h.below HB.out))
    have HZ : Hid (([] : List Tq).length + L.length ≤ maxLen ∧ (([] : List Tq).length + L.length) * KT.b ≤ 140737488355328) := ⟨show 0 + L.length ≤ 9223372036854775807 by omega, show (0 + L.length) * 64 ≤ _ by omega⟩
    clear h hz
    go_enter Tryz.func168, Tryz.ntmps168
    go_wp2_with (at_builtin; refine Ek.wpApp KT rfl _ _ rfl _ [] rfl O0.out ad L.length cap L rfl rfl HN.out HZ.out.2 HZ.out.1 ?_; intro v' w' ho on; have OB := hide (And.intro ho on); clear ho on)
    go_ret
    obtain ⟨o, on⟩ := OB.out
    have hsz : w.heap.size ≤ (w.alloc (.cells #[] 152)).heap.size := HB.out.size
    exact ⟨_, rfl, o, HB.out.trans (on.below hsz (fun k hk => by cases hk; exact Nat.le_refl _)), on.far hsz (fun k hk => by cases hk; exact Nat.le_refl _)⟩
end
def paidR (n : Nat) : List Tu → Nat × Int
  | [] => (n, 0)
  | x :: r => if 1000000 < x.val.toNat + n then (0, 103) else paidR (n + x.val.toNat) r
def Tm.paid (m : Tm) : Nat × Int := paidR 0 m.outs
theorem paidR_no (L : List Tu) (k A : Nat) (h : k < L.length) (hq : 1000000 < L[k].val.toNat + A) : paidR A (L.drop k) = (0, 103) := by
  rw [List.drop_eq_getElem_cons h, paidR, if_pos hq]
theorem paidR_yes (L : List Tu) (k A : Nat) (h : k < L.length) (hq : ¬ 1000000 < L[k].val.toNat + A) : paidR A (L.drop k) = paidR (A + L[k].val.toNat) (L.drop (k + 1)) := by
  rw [List.drop_eq_getElem_cons h, paidR, if_neg hq]
section
set_option maxRecDepth 10000
set_option maxHeartbeats 4000000
theorem paid_any (m : Tm) (ai : Option Addr) (ci : Nat) (ao : Option Addr) (co : Nat) (w : World) (hl : LT w m ai ci ao co) (hf : m.fit) : Calls Tryz.prog 165 #[.agg (m.cells ai ci ao co)] w fun e w' => e = .returned (.tuple #[.int .u64 (m.paid.1 : Int), .int .i64 m.paid.2]) ∧ Below w.heap.size w w' := by
  have b1 := (Below.refl w.heap.size w).alloc (Nat.le_refl _) (.cells (m.cells ai ci ao co) 152)
  have r1 := heap_alloc_last w (.cells (m.cells ai ci ao co) 152)
  have c1 : (w.alloc (.cells (m.cells ai ci ao co) 152)).cell? ⟨w.heap.size, 2, none⟩ = some (.slice ao m.outs.length co) := by rw [cell_of_row _ _ _ _ _ _ r1]; rfl
  have HF := hide hf
  have HL := hide (hl.below b1)
  have B1 := hide b1
  clear hf hl b1 r1
  generalize m.cells ai ci ao co = C at *
  unfold Tm.paid
  go_enter Tryz.func165, Tryz.ntmps165
  go_upto_region 1 with ((with_reducible refine at_list ?_); refine wpList_boxA rfl _ rfl C rfl ?_)
  generalize w.alloc (.cells C 152) = W1 at *
  go_upto_region 3 with fail
  clear c1
  go_loopw [4, 10] (fun s i wr => ∃ k A : Nat, k ≤ m.outs.length ∧ i = .int .i64 (k : Int) ∧ s = .int .u64 (A : Int) ∧ Hid ((A ≤ 1000000 ∧ paidR A (m.outs.drop k) = paidR 0 m.outs) ∧ Below W1.heap.size W1 wr)) (fun _ i _ => (m.outs.length - intOf i).toNat)
  case atStart => exact ⟨0, 0, Nat.zero_le _, rfl, rfl, ⟨by omega, rfl⟩, Below.refl _ _⟩
  case round =>
    obtain ⟨k, A, hk, rfl, rfl, J⟩ := hrel
    by_cases hlt : k < m.outs.length
    · have h1 : (k : Int) < (m.outs.length : Int) := by omega
      have h2 : (0 : Int) ≤ (k : Int) := by omega
      have h5 := HF.out.o
      have e1 : IntKind.i64.wrap ((k : Int) + 1) = k + 1 := wrapI _ (by omega) (by omega)
      have KK := hide (And.intro (show k + 1 ≤ m.outs.length by omega) (show ((m.outs.length : Int) - ((k : Int) + 1)).toNat < ((m.outs.length : Int) - (k : Int)).toNat by omega))
      obtain ⟨ga, oa, rfl⟩ := HL.out.o.base (by omega)
      have RG : Hid (wr.rangeAt ga (oa + k * 2) m.outs[k].cells) := (HL.out.below J.out.2).o.range k hlt
      have PN := hide (fun h => (paidR_no m.outs k A hlt h).symm.trans J.out.1.2)
      have PY := hide (fun h => (paidR_yes m.outs k A hlt h).symm.trans J.out.1.2)
      have JB := hide J.out.2
      have hA := J.out.1.1
      generalize m.outs[k] = x at *
      clear hk hlt h5 J
      go_upto_region 5 with ((with_reducible refine at_list ?_); first | refine wpLoadO _ rfl ga (oa + k * 2) rfl x RG.out (by rfl) ?_ | refine wpList_allocA AO rfl rfl ?_ | refine wpList_store_newA AO rfl _ _ rfl _ rfl x.cells.toArray rfl x.all rfl rfl ?_)
      have c5 : (wr.alloc (.cells x.cells.toArray 156)).cell? ⟨wr.heap.size, 0, none⟩ = some (.int .u64 (x.val.toNat : Int)) := by rw [cell_of_row _ _ _ _ _ _ (heap_alloc_last wr _)]; rfl
      have J2 : Hid (Below W1.heap.size W1 (wr.alloc (.cells x.cells.toArray 156))) := JB.out.alloc JB.out.size _
      generalize wr.alloc (.cells x.cells.toArray 156) = wr2 at *
      clear JB RG
      have hv := x.val.toNat_lt
      generalize x.val.toNat = V at *
      have e2 : IntKind.u64.wrap (1000000 - (A : Int)) = 1000000 - (A : Int) := wrapu _ (by omega) (by omega)
      by_cases hq : 1000000 < V + A
      · have hq2 : (V : Int) > 1000000 - (A : Int) := by omega
        have PN2 := hide (PN.out hq)
        clear hq PN PY hA hv
        go_wp2
        go_ret2
        exact ⟨by rw [← PN2.out]; rfl, B1.out.trans (J2.out.mono B1.out.size)⟩
      · have hq2 : ¬ (V : Int) > 1000000 - (A : Int) := by omega
        have e3 : IntKind.u64.wrap ((A : Int) + (V : Int)) = ((A + V : Nat) : Int) := by rw [wrapu _ (by omega) (by omega)]; omega
        have PY2 := hide (PY.out hq)
        have hA2 := hide (show A + V ≤ 1000000 by omega)
        clear hq PN PY hA hv
        go_wp2
        exact ⟨⟨k + 1, A + V, KK.out.1, by go_num, rfl, ⟨hA2.out, PY2.out⟩, J2.out⟩, by simpa [intOf] using KK.out.2⟩
    · have h1 : ¬ (k : Int) < (m.outs.length : Int) := by omega
      have PE := J.out.1.2
      rw [List.drop_of_length_le (by omega), paidR] at PE
      have PE2 := hide PE
      have JB := hide J.out.2
      clear J PE hk hlt
      go_wp2
      go_ret2
      exact ⟨by rw [← PE2.out]; rfl, B1.out.trans (JB.out.mono B1.out.size)⟩
end
def nullP : Tp := ⟨zeros, 4294967295, zeros_len⟩
theorem bldP (W : World) : (Instr.build 160 #[(1, .int .u32 4294967295)]).run Tryz.prog W = .ok (.agg nullP.cells.toArray) W := by kernel_rfl
def Tm.base (m : Tm) : Bool := match m.ins with
  | [x] => decide (x.pt = nullP)
  | _ => false
theorem Tm.base_one (m : Tm) (h : m.ins.length = 1) : m.base = decide ((m.ins[0]'(by omega)).pt = nullP) := by
  obtain ⟨v, L, O, t⟩ := m
  match L, h with
  | [x], _ => rfl
theorem Tm.base_no (m : Tm) (h : m.ins.length ≠ 1) : m.base = false := by
  obtain ⟨v, L, O, t⟩ := m
  match L, h with
  | [], _ => rfl
  | [x], h => exact absurd rfl h
  | _ :: _ :: _, _ => rfl
section
set_option maxRecDepth 10000
set_option maxHeartbeats 4000000
theorem isNull_any (p : Tp) (w : World) : Calls Tryz.prog 213 #[.agg p.cells.toArray] w fun e w' => e = .returned (.bool (decide (p = nullP))) ∧ Below w.heap.size w w' := by
  have b1 := (Below.refl w.heap.size w).alloc (Nat.le_refl _) (.cells p.cells.toArray 160)
  have R1 := hide (heap_alloc_last w (.cells p.cells.toArray 160))
  have B1 := hide b1
  have PZ := hide p.size
  have EQ := hide (fun W => eqPt fp_api 9997 p nullP W)
  have BL := hide (fun W => bldP W)
  have HG : Tryz.prog.eqGuardType Tryz.prog.depth 160 = false := by kernel_rfl
  clear b1
  generalize p.cells.toArray = C at *
  generalize nullP.cells.toArray = D at *
  generalize decide (p = nullP) = V at *
  go_enter Tryz.func213, Tryz.ntmps213
  go_upto_region 1 with ((with_reducible refine at_list ?_); refine wpList_boxA rfl _ rfl C rfl ?_)
  generalize w.alloc (.cells C 160) = W1 at *
  go_wp2_with ((with_reducible refine at_list ?_); first | refine wpList_loadS APt _ rfl w.heap.size rfl C PZ.out 160 R1.out (by rfl) ?_ | refine wpList_bldX rfl _ rfl #[(1, .int .u32 4294967295)] D (by simp only [List.map_toArray, List.map_cons, List.map_nil]; rfl) BL.out ?_ | refine wpList_eql 160 _ _ _ rfl C D rfl rfl (by rfl) HG V EQ.out ?_)
  go_ret
  exact ⟨rfl, B1.out⟩
theorem base_any (m : Tm) (ai : Option Addr) (ci : Nat) (ao : Option Addr) (co : Nat) (w : World) (hl : LT w m ai ci ao co) (hf : m.fit) : Calls Tryz.prog 150 #[.agg (m.cells ai ci ao co)] w fun e w' => e = .returned (.bool m.base) ∧ Below w.heap.size w w' := by
  have b1 := (Below.refl w.heap.size w).alloc (Nat.le_refl _) (.cells (m.cells ai ci ao co) 152)
  have r1 := heap_alloc_last w (.cells (m.cells ai ci ao co) 152)
  have c1 : (w.alloc (.cells (m.cells ai ci ao co) 152)).cell? ⟨w.heap.size, 1, none⟩ = some (.slice ai m.ins.length ci) := by rw [cell_of_row _ _ _ _ _ _ r1]; rfl
  have HL := hide (hl.below b1)
  have B1 := hide b1
  clear b1 r1 hl
  generalize m.cells ai ci ao co = C at *
  by_cases h : m.ins.length = 1
  · obtain ⟨ga, oa, rfl⟩ := HL.out.i.base (by omega)
    have RP := hide (Ti.ptAt _ (HL.out.i.range 0 (by omega)))
    rw [h] at c1
    rw [m.base_one h]
    have HI : Hid (∀ W, Calls Tryz.prog 213 #[.agg (m.ins[0]'(by omega)).pt.cells.toArray] W fun e w' => e = .returned (.bool (decide ((m.ins[0]'(by omega)).pt = nullP))) ∧ Below W.heap.size W w') := fun W => isNull_any _ W
    generalize (m.ins[0]'(by omega)).pt = y at *
    rw [Nat.zero_mul, Nat.add_zero] at RP
    clear h HL hf
    go_enter Tryz.func150, Tryz.ntmps150
    go_upto_region 1 with ((with_reducible refine at_list ?_); refine wpList_boxA rfl _ rfl C rfl ?_)
    generalize w.alloc (.cells C 152) = W1 at *
    generalize hq : decide (y = nullP) = V at *
    go_wp2_with (first | (go_at_call 213; refine (HI.out _).mono ?_; rintro r W2 ⟨rfl, b2⟩; have B2 := hide (below_next B1.out b2); clear b2) | ((with_reducible refine at_list ?_); refine wpLoadP _ rfl ga oa rfl y RP.out (by rfl) ?_))
    go_ret
    exact ⟨by rw [hq]; rfl, B2.out⟩
  · rw [m.base_no h]
    have h2 : ((m.ins.length : Int) == 1) = false := by simp; omega
    go_enter Tryz.func150, Tryz.ntmps150
    go_upto_region 1 with ((with_reducible refine at_list ?_); refine wpList_boxA rfl _ rfl C rfl ?_)
    generalize w.alloc (.cells C 152) = W1 at *
    go_wp2
    go_ret
    exact ⟨rfl, B1.out⟩
theorem wpList_buildV {t : TypeId} {n : Nat} {z : Array Value} {w : World} {ops : Array Oper} {rest : List Oper} {o : Oper} {a : Act} {Q : Exit → Act → World → Prop} (A : Arr t n z) (ho : o.op = .build t #[]) (hw : Region.wanted o (yielded ops a.tmps) = true)
    (h : wpList Tryz.prog ops Q rest (a.put o.dst (.agg z)) w) : wpList Tryz.prog ops Q (o :: rest) a w := by
  refine wpList_step fun K hK => ?_
  rw [if_pos hw]
  unfold Oper.wp execOp
  simp only [ho, List.map_toArray, List.map_nil, A.build, Sem.run_bind, Result.andThen_ok, Sem.run_pure]
  exact hK _ _ h
end
def cbI (k : ByteArray) : Ti := ⟨zeros, 4294967295, k, 4294967295, zeros_len⟩
def cbT (n : Nat) (x : ByteArray) (L : List Tu) : Tm := ⟨1, [cbI (txt (lowL n 4 ++ x.data.toList))], L, 0⟩
theorem bld_cbI (k : ByteArray) (W : World) : (Instr.build 162 #[(0, .agg nullP.cells.toArray), (1, .string k), (2, .int .u32 4294967295)]).run Tryz.prog W = .ok (.agg (cbI k).cells.toArray) W := by kernel_rfl
theorem bld_cbT (a : Option Addr) (n c : Nat) (b : Option Addr) (m d : Nat) (W : World) : (Instr.build 152 #[(0, .int .u32 1), (1, .slice a n c), (2, .slice b m d)]).run Tryz.prog W = .ok (.agg #[.int .u32 1, .slice a n c, .slice b m d, .int .u32 0]) W := by kernel_rfl
theorem LX.of_row {W : World} {g : Nat} {t : TypeId} {x : Ti} (h : W.heap[g]? = some (.cells x.cells.toArray t (0, 0))) : LX KA W (.slice (some ⟨g, 0, none⟩) 1 1) [x] :=
  ⟨_, 1, rfl, Nat.le_refl _, fun i hi => by
    have h0 : i = 0 := by simpa using hi
    subst h0
    refine ⟨g, 0, rfl, lt_heap h, ?_⟩
    rw [Nat.zero_mul]
    exact rowAt _ h⟩
section
set_option maxRecDepth 10000
set_option maxHeartbeats 4000000
theorem cbase_yes (n : Nat) (x : ByteArray) (v : Value) (L : List Tu) (w : World) (hn : n ≤ 2147483647) (hx : x.size ≤ 96) (hL : LX KO w v L) (hz : L.length * 24 ≤ 140737488355328) : Calls Tryz.prog 74 #[.int .i64 (n : Int), .string x, v] w fun e w' => ∃ ai ci ao co, e = .returned (.tuple #[.agg ((cbT n x L).cells ai ci ao co), .int .i64 0]) ∧ LT w' (cbT n x L) ai ci ao co ∧ Below w.heap.size w w' := by
  obtain ⟨av, cv, rfl⟩ := hL.form
  have b1 := (Below.refl w.heap.size w).alloc (Nat.le_refl _) (.cells (zT.cells none 0 none 0) 152)
  have R1 := hide (heap_alloc_last w (.cells (zT.cells none 0 none 0) 152))
  have B1 := hide b1
  have HL := hide (hL.below b1)
  have HX := hide hx
  have HN := hide hn
  have h1 : decide ((n : Int) < 0) = false := decide_eq_false (by omega)
  have h2 : decide ((n : Int) > 2147483647) = false := decide_eq_false (by omega)
  have h3 : decide ((x.size : Int) > 96) = false := decide_eq_false (by omega)
  have e1 : IntKind.u32.wrap (n : Int) = (n : Int) := by rw [IntKind.wrap_u32]; omega
  have HC := hide (fun W l => cloneO_any (.slice av L.length cv) L W l hz)
  have LN := hide (lowL_len n 4)
  clear hL b1 hx hn hz
  go_enter Tryz.func74, Tryz.ntmps74
  go_upto_region 1 with ((with_reducible refine at_list ?_); refine wpList_allocA AT rfl rfl ?_)
  generalize w.alloc (.cells (zT.cells none 0 none 0) 152) = W0 at *
  go_upto_region 3 with fail
  clear h1 h2 h3
  go_upto_region 4 with (go_at_call 140; refine (newWriter_any _).mono ?_; rintro e W2 ⟨rfl, rfl⟩)
  have J0 := hide (Wb.new W0)
  generalize W0.alloc (.cells #[.slice none 0 0] 323) = W1 at *
  generalize hb : W0.heap.size = b at *
  go_upto_region 5 with (go_at_call 141; refine (wU32 (pb b) [] n (by have := HN.out; omega) _ (by simp) J0.out.st).mono ?_; rintro e W2 ⟨rfl, j1, f1⟩; have J1 := hide (J0.out.step j1 f1); clear j1 f1)
  rw [List.nil_append] at J1
  clear J0 e1
  go_upto_region 6 with (go_at_call 142; refine (wBytes (pb b) _ x (.inr (by have := HX.out; omega)) _ (by rw [LN.out]; omega) J1.out.st).mono ?_; rintro e W3 ⟨rfl, j1, f1⟩; have J2 := hide (J1.out.step j1 f1); clear j1 f1)
  have KE : Hid (∃ K, K = txt (lowL n 4 ++ x.data.toList)) := ⟨_, rfl⟩
  obtain ⟨K, hK⟩ := KE.out
  have HW : Hid (Calls Tryz.prog 143 #[pb b] W3 fun e w' => e = .returned (.string K) ∧ w' = W3) := by
    show Calls _ _ _ _ _
    rw [hK]
    exact wText b _ W3 J2.out.st
  have HK := hide hK
  clear hK KE J1
  have XE : Hid (∃ X, X = cbI K) := ⟨_, rfl⟩
  obtain ⟨X, hX⟩ := XE.out
  have HXX := hide hX
  have BI : Hid (∀ W, (Instr.build 162 #[(0, .agg nullP.cells.toArray), (1, .string K), (2, .int .u32 4294967295)]).run Tryz.prog W = .ok (.agg X.cells.toArray) W) := by
    rw [hX]
    exact bld_cbI K
  have BP := hide bldP
  clear hX XE
  have CZ := hide X.size
  have CA := hide X.all
  generalize nullP.cells.toArray = NP at *
  go_upto_region 7 with (first | (go_at_call 143; refine HW.out.mono ?_; rintro e W7 ⟨rfl, h9⟩; subst W7) | ((with_reducible refine at_list ?_); first | refine wpList_bldX rfl _ rfl #[(1, .int .u32 4294967295)] NP (by simp only [List.map_toArray, List.map_cons, List.map_nil]; rfl) BP.out ?_ | refine wpList_bldX rfl _ rfl #[(0, .agg NP), (1, .string K), (2, .int .u32 4294967295)] X.cells.toArray (by simp only [List.map_toArray, List.map_cons, List.map_nil]; rfl) BI.out ?_ | refine wpList_allocA AI rfl rfl ?_ | refine wpList_store_newA AI rfl _ _ rfl _ rfl X.cells.toArray CZ.out CA.out rfl rfl ?_))
  simp only [Act.put, s0, s1, s2]
  have D4 := hide (below_next J2.out.bel ((Below.refl W3.heap.size W3).alloc (Nat.le_refl _) (.cells X.cells.toArray 162)))
  have R9 := hide (heap_alloc_last W3 (.cells X.cells.toArray 162))
  have NG : Hid (w.heap.size ≠ W3.heap.size) := by
    have := lt_heap R1.out
    have := J2.out.bel.size
    show w.heap.size ≠ W3.heap.size
    omega
  have HL4 := hide (HL.out.below D4.out)
  have RZ := hide ((D4.out.block _ (lt_heap R1.out)).trans R1.out)
  have BW4 := hide (below_next B1.out D4.out)
  clear HL R1 J2 D4 HW BI BP
  generalize W3.alloc (.cells X.cells.toArray 162) = W4 at *
  generalize W3.heap.size = g9 at *
  have SS : Hid (∀ W, Below W4.heap.size W4 W → Below w.heap.size w W ∧ W.heap[g9]? = some (.cells X.cells.toArray 162 (0, 0))) := fun W bw => ⟨below_next BW4.out bw, (bw.block _ (lt_heap R9.out)).trans R9.out⟩
  have DV1 := hide ((Below.refl W4.heap.size W4).drew)
  refine wp_region_held_drew (S := fun W => Below w.heap.size w W ∧ W.heap[g9]? = some (.cells X.cells.toArray 162 (0, 0))) (by kernel_rfl) (SS.out _ DV1.out) (fun hH => ?_)
  generalize hWd : W4.drew = V1 at *
  clear hWd
  refine wt (i := 0) (v := (.agg X.cells.toArray)) rfl (yl_load (by rfl) _ (by rfl) _ X.cells.toArray (by rfl) (fun W hS => ld_row AI CZ.out hS.2)) hH ?_
  change wpAnyH _ _ _ _ _ _ _ (Act.put _ (some 34) _) _
  simp only [Act.put, s0, s1, s2]
  refine wt (i := 2) (v := (.slice av L.length cv)) rfl (yl_move (by rfl) _ (by rfl) _ (by rfl)) hH ?_
  change wpAnyH _ _ _ _ _ _ _ (Act.put _ (some 36) _) _
  simp only [Act.put, s0, s1, s2]
  refine wpAnyH_ready (rs := [1, 3]) (by kernel_rfl) (by simp) (AllReadyH.cons rfl (fun K1 hK1 => ?_) (AllReadyH.cons rfl (fun K1 hK1 => ?_) AllReadyH.nil))
  · refine Ek.stepBs1 KA (by rfl) _ (by rfl) X (by rfl) ?_
    have ba := (Below.refl V1.heap.size V1).alloc (Nat.le_refl _) (.cells (KA.enc X).toArray KA.e)
    have DV2 := hide (below_next DV1.out ba)
    have RI1 := hide (heap_alloc_last V1 (.cells (KA.enc X).toArray KA.e))
    have GI : Hid (W4.heap.size ≤ V1.heap.size) := DV1.out.size
    refine hK1.out _ _ (SS.out _ DV2.out) (fun hH => ?_)
    clear hK1
    change wpAnyH _ _ _ _ _ _ _ (Act.put _ (some 35) _) _
    simp only [Act.put, s0, s1, s2]
    clear ba
    generalize V1.alloc (.cells (KA.enc X).toArray KA.e) = V2 at *
    generalize V1.heap.size = gi at *
    refine wpAnyH_ready (rs := [3]) (by kernel_rfl) (by simp) (AllReadyH.cons rfl (fun K1 hK1 => ?_) AllReadyH.nil)
    go_simp
    refine (HC.out V2 (HL4.out.below DV2.out)).mono ?_
    rintro r V3 ⟨v', rfl, ox, be, fa⟩
    obtain ⟨ao', co', rfl⟩ := ox.form
    have DV3 := hide (below_next DV2.out be)
    have RI := hide ((be.block _ (lt_heap RI1.out)).trans RI1.out)
    have OXX : Hid (OX KO V3 (.slice ao' L.length co') L ∧ ∀ g, (Value.slice ao' L.length co').ownBlock = some g → W4.heap.size ≤ g) := ⟨ox, fun g hg => Nat.le_trans DV2.out.size (fa g hg)⟩
    refine hK1.out _ _ (SS.out _ DV3.out) (fun hH => ?_)
    clear hK1 be ox fa
    have R3 := hide ((DV3.out.block _ (lt_heap RZ.out)).trans RZ.out)
    refine wt (i := 4) (v := (.agg #[.int .u32 1, .slice (some ⟨gi, 0, none⟩) 1 1, .slice ao' L.length co', .int .u32 0])) rfl (yl_build (by rfl) _ (by rfl) #[(0, .int .u32 1), (1, .slice (some ⟨gi, 0, none⟩) 1 1), (2, .slice ao' L.length co')] _ (by simp only [List.map_toArray, List.map_cons, List.map_nil]; rfl) (fun W => bld_cbT _ _ _ _ _ _ W)) hH ?_
    change wpAnyH _ _ _ _ _ _ _ (Act.put _ (some 38) _) _
    simp only [Act.put, s0, s1, s2]
    refine wpAnyH_ready (rs := [5]) (by kernel_rfl) (by simp) (AllReadyH.cons rfl (fun K1 hK1 => ?_) AllReadyH.nil)
    refine stepStoreA AT (by rfl) _ _ (by rfl) w.heap.size #[.int .u32 1, .slice (some ⟨gi, 0, none⟩) 1 1, .slice ao' L.length co', .int .u32 0] rfl (by simp [Value.oneCell']) (by rfl) (by rfl) (zT.cells none 0 none 0) rfl 152 R3.out ?_
    refine hK1.out _ _ ⟨below_setRow (below_next BW4.out DV3.out) (Nat.le_refl _) _, (setRow_other _ _ _ _ (Ne.symm NG.out)).trans ((DV3.out.block _ (lt_heap R9.out)).trans R9.out)⟩ (fun hH => ?_)
    clear hK1
    refine wt (i := 6) (v := (.int .i64 0)) rfl (.inl ⟨by rfl, fun W _ => by go_simp⟩) hH ?_
    change wpAnyH _ _ _ _ _ _ _ (Act.put _ (some 7) _) _
    simp only [Act.put, List.setIfInBounds_toArray]
    refine wpAnyH_done (by kernel_rfl) ?_ _
    clear hH
    go_wp2
    have hlt0 := lt_heap R3.out
    have LI : LX KA (V3.setRow w.heap.size #[.int .u32 1, .slice (some ⟨gi, 0, none⟩) 1 1, .slice ao' L.length co', .int .u32 0]) (.slice (some ⟨gi, 0, none⟩) 1 1) [X] := LX.of_row ((setRow_other _ _ _ _ (by have := GI.out; have := lt_heap RZ.out; omega)).trans RI.out)
    have LO : OX KO (V3.setRow w.heap.size #[.int .u32 1, .slice (some ⟨gi, 0, none⟩) 1 1, .slice ao' L.length co', .int .u32 0]) (.slice ao' L.length co') L := OXX.out.1.of_block (fun g hg => setRow_other _ _ _ _ (by have := OXX.out.2 g hg; have := lt_heap RZ.out; omega))
    exact bodyPost_ret (v := .tuple #[.agg #[.int .u32 1, .slice (some ⟨gi, 0, none⟩) 1 1, .slice ao' L.length co', .int .u32 0], .int .i64 0]) (resA2K AT Tryz.results74 _ _ w.heap.size 152 _ rfl rfl (setRow_heap _ _ _ _ _ _ R3.out) _ rfl) rfl ⟨some ⟨gi, 0, none⟩, 1, ao', co', rfl, ⟨by rw [show (cbT n x L).ins = [X] by rw [HXX.out, HK.out]; rfl]; exact LI, LO.read⟩, below_setRow (below_next BW4.out DV3.out) (Nat.le_refl _) _⟩
  · go_simp
    refine (HC.out V1 (HL4.out.below DV1.out)).mono ?_
    rintro r V2 ⟨v', rfl, ox, be, fa⟩
    obtain ⟨ao', co', rfl⟩ := ox.form
    have DV2 := hide (below_next DV1.out be)
    have OX0 : Hid (OX KO V2 (.slice ao' L.length co') L ∧ ∀ g, (Value.slice ao' L.length co').ownBlock = some g → W4.heap.size ≤ g) := ⟨ox, fun g hg => Nat.le_trans DV1.out.size (fa g hg)⟩
    refine hK1.out _ _ (SS.out _ DV2.out) (fun hH => ?_)
    clear hK1 be ox fa
    refine wpAnyH_ready (rs := [1]) (by kernel_rfl) (by simp) (AllReadyH.cons rfl (fun K1 hK1 => ?_) AllReadyH.nil)
    refine Ek.stepBs1 KA (by rfl) _ (by rfl) X (by rfl) ?_
    have ba := (Below.refl V2.heap.size V2).alloc (Nat.le_refl _) (.cells (KA.enc X).toArray KA.e)
    have DV3 := hide (below_next DV2.out ba)
    have RI := hide (heap_alloc_last V2 (.cells (KA.enc X).toArray KA.e))
    have GI : Hid (W4.heap.size ≤ V2.heap.size) := DV2.out.size
    have OXX : Hid (OX KO (V2.alloc (.cells (KA.enc X).toArray KA.e)) (.slice ao' L.length co') L ∧ ∀ g, (Value.slice ao' L.length co').ownBlock = some g → W4.heap.size ≤ g) := ⟨OX0.out.1.below ba, OX0.out.2⟩
    refine hK1.out _ _ (SS.out _ DV3.out) (fun hH => ?_)
    clear hK1
    change wpAnyH _ _ _ _ _ _ _ (Act.put _ (some 35) _) _
    simp only [Act.put, s0, s1, s2]
    clear ba
    generalize V2.alloc (.cells (KA.enc X).toArray KA.e) = V3 at *
    generalize V2.heap.size = gi at *
    have R3 := hide ((DV3.out.block _ (lt_heap RZ.out)).trans RZ.out)
    refine wt (i := 4) (v := (.agg #[.int .u32 1, .slice (some ⟨gi, 0, none⟩) 1 1, .slice ao' L.length co', .int .u32 0])) rfl (yl_build (by rfl) _ (by rfl) #[(0, .int .u32 1), (1, .slice (some ⟨gi, 0, none⟩) 1 1), (2, .slice ao' L.length co')] _ (by simp only [List.map_toArray, List.map_cons, List.map_nil]; rfl) (fun W => bld_cbT _ _ _ _ _ _ W)) hH ?_
    change wpAnyH _ _ _ _ _ _ _ (Act.put _ (some 38) _) _
    simp only [Act.put, s0, s1, s2]
    refine wpAnyH_ready (rs := [5]) (by kernel_rfl) (by simp) (AllReadyH.cons rfl (fun K1 hK1 => ?_) AllReadyH.nil)
    refine stepStoreA AT (by rfl) _ _ (by rfl) w.heap.size #[.int .u32 1, .slice (some ⟨gi, 0, none⟩) 1 1, .slice ao' L.length co', .int .u32 0] rfl (by simp [Value.oneCell']) (by rfl) (by rfl) (zT.cells none 0 none 0) rfl 152 R3.out ?_
    refine hK1.out _ _ ⟨below_setRow (below_next BW4.out DV3.out) (Nat.le_refl _) _, (setRow_other _ _ _ _ (Ne.symm NG.out)).trans ((DV3.out.block _ (lt_heap R9.out)).trans R9.out)⟩ (fun hH => ?_)
    clear hK1
    refine wt (i := 6) (v := (.int .i64 0)) rfl (.inl ⟨by rfl, fun W _ => by go_simp⟩) hH ?_
    change wpAnyH _ _ _ _ _ _ _ (Act.put _ (some 7) _) _
    simp only [Act.put, List.setIfInBounds_toArray]
    refine wpAnyH_done (by kernel_rfl) ?_ _
    clear hH
    go_wp2
    have hlt0 := lt_heap R3.out
    have LI : LX KA (V3.setRow w.heap.size #[.int .u32 1, .slice (some ⟨gi, 0, none⟩) 1 1, .slice ao' L.length co', .int .u32 0]) (.slice (some ⟨gi, 0, none⟩) 1 1) [X] := LX.of_row ((setRow_other _ _ _ _ (by have := GI.out; have := lt_heap RZ.out; omega)).trans RI.out)
    have LO : OX KO (V3.setRow w.heap.size #[.int .u32 1, .slice (some ⟨gi, 0, none⟩) 1 1, .slice ao' L.length co', .int .u32 0]) (.slice ao' L.length co') L := OXX.out.1.of_block (fun g hg => setRow_other _ _ _ _ (by have := OXX.out.2 g hg; have := lt_heap RZ.out; omega))
    exact bodyPost_ret (v := .tuple #[.agg #[.int .u32 1, .slice (some ⟨gi, 0, none⟩) 1 1, .slice ao' L.length co', .int .u32 0], .int .i64 0]) (resA2K AT Tryz.results74 _ _ w.heap.size 152 _ rfl rfl (setRow_heap _ _ _ _ _ _ R3.out) _ rfl) rfl ⟨some ⟨gi, 0, none⟩, 1, ao', co', rfl, ⟨by rw [show (cbT n x L).ins = [X] by rw [HXX.out, HK.out]; rfl]; exact LI, LO.read⟩, below_setRow (below_next BW4.out DV3.out) (Nat.le_refl _) _⟩
end
end Go.Proofs.YtcoojkpimbddlaaGreatDoor
