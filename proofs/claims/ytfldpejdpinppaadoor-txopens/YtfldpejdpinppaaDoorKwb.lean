/- When a transaction is final: tx.allLast, tx.Final, the document's Final: their contracts. -/
import Derived.Test.YtfldpejdpinppaaDoorKv
import Derived.Test.YtfldpejdpinppaaDoorKe
namespace Go.Proofs.YtfldpejdpinppaaDoor
open Go.RowKit
open Go.Deep
set_option linter.unusedVariables false
/-- An input that waits. -/
def waits (x : Ti) : Bool := ((x.seq.toNat : Int) != 4294967295)
/-- Is a transaction final? -/
def finB (m : Tm) (h t : Int) : Bool := decide ((m.time.toNat : Int) = 0) || !m.ins.any waits || (if (m.time.toNat : Int) < 500000000 then decide ((m.time.toNat : Int) < h) else decide ((m.time.toNat : Int) < t))
theorem finB_max (m : Tm) (h t : Int) : finB m (max h 0) t = finB m h t := by
  unfold finB
  by_cases h0 : (m.time.toNat : Int) = 0
  · rw [decide_eq_true h0, Bool.true_or, Bool.true_or, Bool.true_or]
  · have : decide ((m.time.toNat : Int) < max h 0) = decide ((m.time.toNat : Int) < h) := by
      rw [decide_eq_decide]
      omega
    rw [this]
theorem zAr : Arr 72 35 zTi.cells.toArray := ⟨.inr ⟨_, Tryd.underlying72⟩, by kernel_rfl, fun w => by kernel_rfl, fun w => by kernel_rfl, by rw [List.size_toArray, Ti.len]⟩
section
set_option maxRecDepth 10000
set_option maxHeartbeats 4000000
theorem allLast_any (ai : Option Addr) (ci : Nat) (L : List Ti) (w : World) (hl : LX KA w (.slice ai L.length ci) L) (hf : L.length * 64 ≤ 140737488355328) : Calls Tryd.prog 33 #[.slice ai L.length ci] w fun e w' => e = .returned (.bool (!L.any waits)) ∧ Below w.heap.size w w' := by
  have HL := hide hl
  have HF := hide hf
  clear hl hf
  obtain ⟨res, hres⟩ : ∃ r : Bool, r = !L.any waits := ⟨_, rfl⟩
  rw [← hres]
  have HR := hide hres
  clear hres
  go_enter Tryd.func33, Tryd.ntmps33
  go_upto_region 2 with fail
  go_loopw [7] (fun i wr => ∃ k : Nat, k ≤ L.length ∧ i = .int .i64 (k : Int) ∧ Hid ((L.take k).any waits = false ∧ Below w.heap.size w wr)) (fun i _ => (L.length - intOf i).toNat)
  case atStart => exact ⟨0, Nat.zero_le _, rfl, by simp, Below.refl _ _⟩
  case round =>
    obtain ⟨k, hk, rfl, J⟩ := hrel
    by_cases hlt : k < L.length
    · have h1 : (k : Int) < (L.length : Int) := by omega
      have h2 : (0 : Int) ≤ (k : Int) := by omega
      have h5 := HF.out
      have e1 : IntKind.i64.wrap ((k : Int) + 1) = k + 1 := wrapI _ (by omega) (by omega)
      have KK := hide (And.intro (show k + 1 ≤ L.length by omega) (show ((L.length : Int) - ((k : Int) + 1)).toNat < ((L.length : Int) - (k : Int)).toNat by omega))
      obtain ⟨ga, oa, rfl⟩ := HL.out.base (by omega)
      have RG : Hid (wr.rangeAt ga (oa + k * 35) L[k].cells) := (HL.out.below J.out.2).range k hlt
      have AH := hide (any_here waits L k hlt)
      have AT := hide (fun h => any_take waits L k hlt J.out.1 h)
      have JB := hide J.out.2
      generalize L[k] = x at *
      clear hk hlt h5 J
      go_upto_region 4 with ((with_reducible refine at_list ?_); first | refine wpLoadI _ rfl ga (oa + k * 35) rfl x RG.out (by rfl) ?_ | refine wpList_allocA AI rfl rfl ?_ | refine wpList_store_newA AI rfl _ _ rfl _ rfl x.cells.toArray x.size x.all rfl rfl ?_)
      have c5 : (wr.alloc (.cells x.cells.toArray 64)).cell? ⟨wr.heap.size, 34, none⟩ = some (.int .u32 (x.seq.toNat : Int)) := by rw [cell_of_row _ _ _ _ _ _ (heap_alloc_last wr _)]; exact x.at34
      have J2 : Hid (Below w.heap.size w (wr.alloc (.cells x.cells.toArray 64))) := JB.out.alloc JB.out.size _
      generalize wr.alloc (.cells x.cells.toArray 64) = wr2 at *
      clear JB RG
      unfold waits at AH AT
      cases hq : ((x.seq.toNat : Int) != 4294967295)
      · have AT2 := hide (AT.out hq)
        clear AH AT
        go_wp2
        exact ⟨⟨k + 1, KK.out.1, by go_num, AT2.out, J2.out⟩, by simpa [intOf] using KK.out.2⟩
      · have AH2 := hide (AH.out hq)
        clear AH AT
        go_wp2
        go_ret
        exact ⟨by have : res = false := by rw [HR.out]; show (!L.any waits) = false; have q : L.any waits = true := AH2.out; rw [q]; rfl
                  rw [this]; rfl, J2.out⟩
    · have h1 : ¬ (k : Int) < (L.length : Int) := by omega
      have NI := hide J.out.1
      rw [List.take_of_length_le (by omega)] at NI
      have JB := hide J.out.2
      clear hk hlt J
      go_wp2
      go_ret
      exact ⟨by have : res = true := by rw [HR.out, NI.out]; rfl
                rw [this]; rfl, JB.out⟩
theorem final_any (m : Tm) (ai : Option Addr) (ci : Nat) (ao : Option Addr) (co : Nat) (w : World) (hl : LT w m ai ci ao co) (hf : m.fit) (h : Int) (t : UInt32) : Calls Tryd.prog 16 #[.agg (m.cells ai ci ao co), .int .i64 h, .int .u32 (t.toNat : Int)] w fun e w' => e = .returned (.bool (finB m h (t.toNat : Int))) ∧ Below w.heap.size w w' := by
  have b1 := (Below.refl w.heap.size w).alloc (Nat.le_refl _) (.cells (m.cells ai ci ao co) 26)
  have r1 := heap_alloc_last w (.cells (m.cells ai ci ao co) 26)
  have c1 : (w.alloc (.cells (m.cells ai ci ao co) 26)).cell? ⟨w.heap.size, 1, none⟩ = some (.slice ai m.ins.length ci) := by rw [cell_of_row _ _ _ _ _ _ r1]; rfl
  have c3 : (w.alloc (.cells (m.cells ai ci ao co) 26)).cell? ⟨w.heap.size, 3, none⟩ = some (.int .u32 (m.time.toNat : Int)) := by rw [cell_of_row _ _ _ _ _ _ r1]; rfl
  have R1 := hide r1
  have B1 := hide b1
  have HA := hide (allLast_any ai ci m.ins _ (hl.below b1).i hf.i)
  have ht := m.time.toNat_lt
  have TM : Hid ((m.time.toNat : Int) = m.time.toNat) := rfl
  unfold finB
  clear b1 r1 hl hf
  generalize hC : m.cells ai ci ao co = C at *
  have e1 : IntKind.i64.wrap (m.time.toNat : Int) = (m.time.toNat : Int) := wrapI _ (by omega) (by omega)
  have CT : Hid (∀ W, Below (w.alloc (.cells C 26)).heap.size (w.alloc (.cells C 26)) W → W.cell? ⟨w.heap.size, 3, none⟩ = some (.int .u32 (m.time.toNat : Int))) := fun W b => by rw [cell_of_row _ _ _ _ _ _ ((b.block _ (lt_heap R1.out)).trans R1.out), ← hC]; rfl
  generalize (m.time.toNat : Int) = tm at *
  generalize (t.toNat : Int) = tt at *
  generalize (!m.ins.any waits) = al at *
  clear R1 TM hC
  by_cases h0 : tm = 0
  · subst h0
    rw [show (decide ((0 : Int) = 0) || al || (if (0 : Int) < 500000000 then decide (0 < h) else decide (0 < tt))) = true by simp]
    go_enter Tryd.func16, Tryd.ntmps16
    go_upto_region 1 with ((with_reducible refine at_list ?_); refine wpList_boxA rfl _ rfl C rfl ?_)
    generalize w.alloc (.cells C 26) = W0 at *
    go_wp2
    go_ret
    exact ⟨rfl, B1.out⟩
  · have h0' : (tm == 0) = false := by simp [h0]
    rw [show (decide (tm = 0) || al || (if tm < 500000000 then decide (tm < h) else decide (tm < tt))) = (al || (if tm < 500000000 then decide (tm < h) else decide (tm < tt))) by simp [h0]]
    clear h0
    cases al
    · rw [Bool.false_or]
      by_cases h5 : tm < 500000000
      · rw [if_pos h5]
        generalize hd : decide (tm < h) = dd at *
        go_enter Tryd.func16, Tryd.ntmps16
        go_upto_region 1 with ((with_reducible refine at_list ?_); refine wpList_boxA rfl _ rfl C rfl ?_)
        generalize w.alloc (.cells C 26) = W0 at *
        go_wp2_with (go_at_call 33; refine HA.out.mono ?_; rintro r W1 ⟨rfl, b1⟩; have B2 := hide b1; have c4 := CT.out _ b1; clear b1 c3 c1)
        go_ret
        exact ⟨rfl, below_next B1.out B2.out⟩
      · rw [if_neg h5]
        generalize hd : decide (tm < tt) = dd at *
        go_enter Tryd.func16, Tryd.ntmps16
        go_upto_region 1 with ((with_reducible refine at_list ?_); refine wpList_boxA rfl _ rfl C rfl ?_)
        generalize w.alloc (.cells C 26) = W0 at *
        go_wp2_with (go_at_call 33; refine HA.out.mono ?_; rintro r W1 ⟨rfl, b1⟩; have B2 := hide b1; have c4 := CT.out _ b1; clear b1 c3 c1)
        go_ret
        exact ⟨rfl, below_next B1.out B2.out⟩
    · rw [Bool.true_or]
      go_enter Tryd.func16, Tryd.ntmps16
      go_upto_region 1 with ((with_reducible refine at_list ?_); refine wpList_boxA rfl _ rfl C rfl ?_)
      generalize w.alloc (.cells C 26) = W0 at *
      go_wp2_with (go_at_call 33; refine HA.out.mono ?_; rintro r W1 ⟨rfl, b1⟩; have B2 := hide b1; clear b1 c3 c1)
      go_ret
      exact ⟨rfl, below_next B1.out B2.out⟩
theorem rfinal_any (m : Tm) (ai : Option Addr) (ci : Nat) (ao : Option Addr) (co : Nat) (w : World) (hl : LR w m ai ci ao co) (hf : m.fit) (h : Int) (h0 : 0 ≤ h) (h9 : h ≤ 9223372036854775807) (t : UInt32) : Calls Tryd.prog 17 #[.agg (m.cells ai ci ao co), .int .i64 h, .int .u32 (t.toNat : Int)] w fun e w' => e = .returned (.bool (finB m h (t.toNat : Int))) ∧ Below w.heap.size w w' := by
  have b1 := (Below.refl w.heap.size w).alloc (Nat.le_refl _) (.cells (m.cells ai ci ao co) 37)
  have r1 := heap_alloc_last w (.cells (m.cells ai ci ao co) 37)
  have c1 : (w.alloc (.cells (m.cells ai ci ao co) 37)).cell? ⟨w.heap.size, 1, none⟩ = some (.slice ai m.ins.length ci) := by rw [cell_of_row _ _ _ _ _ _ r1]; rfl
  have c3 : (w.alloc (.cells (m.cells ai ci ao co) 37)).cell? ⟨w.heap.size, 3, none⟩ = some (.int .u32 (m.time.toNat : Int)) := by rw [cell_of_row _ _ _ _ _ _ r1]; rfl
  have B1 := hide b1
  have HL := hide (hl.below b1).i
  have HF := hide hf.i
  have ht := m.time.toNat_lt
  have e1 : IntKind.u64.wrap (m.time.toNat : Int) = (m.time.toNat : Int) := wrapu _ (by omega) (by omega)
  have e2 : IntKind.u64.wrap h = h := wrapu _ h0 (by omega)
  obtain ⟨res, hres⟩ : ∃ r : Bool, r = finB m h (t.toNat : Int) := ⟨_, rfl⟩
  rw [← hres]
  unfold finB at hres
  clear b1 r1 hl hf ht h9
  generalize hC : m.cells ai ci ao co = C at *
  generalize (m.time.toNat : Int) = tm at *
  generalize (t.toNat : Int) = tt at *
  clear hC
  by_cases k0 : tm = 0
  · subst k0
    have hr : res = true := by rw [hres]; simp
    clear hres
    subst hr
    go_enter Tryd.func17, Tryd.ntmps17
    go_upto_region 1 with ((with_reducible refine at_list ?_); refine wpList_boxA rfl _ rfl C rfl ?_)
    generalize w.alloc (.cells C 37) = W0 at *
    go_wp2
    go_ret
    exact ⟨rfl, B1.out⟩
  have k0' : (tm == 0) = false := by simp [k0]
  by_cases k5 : tm < 500000000
  case' pos =>
    have k6 : decide (tm ≥ 500000000) = false := decide_eq_false (by omega)
    by_cases k7 : tm < h
    case' pos =>
      have hr : res = true := by rw [hres, if_pos k5, decide_eq_true k7, Bool.or_true]
      subst hr
      clear k0 hres
      go_enter Tryd.func17, Tryd.ntmps17
      go_upto_region 1 with ((with_reducible refine at_list ?_); refine wpList_boxA rfl _ rfl C rfl ?_)
      generalize w.alloc (.cells C 37) = W0 at *
      go_wp2
      go_ret
      exact ⟨rfl, B1.out⟩
    case' neg =>
      have hr : res = !m.ins.any waits := by rw [hres, if_pos k5, decide_eq_false k7, Bool.or_false, decide_eq_false k0, Bool.false_or]
  case' neg =>
    have k6 : tm ≥ 500000000 := by omega
    by_cases k7 : tm < tt
    case' pos =>
      have hr : res = true := by rw [hres, if_neg k5, decide_eq_true k7, Bool.or_true]
      subst hr
      clear k0 hres
      go_enter Tryd.func17, Tryd.ntmps17
      go_upto_region 1 with ((with_reducible refine at_list ?_); refine wpList_boxA rfl _ rfl C rfl ?_)
      generalize w.alloc (.cells C 37) = W0 at *
      go_wp2
      go_ret
      exact ⟨rfl, B1.out⟩
    case' neg =>
      have hr : res = !m.ins.any waits := by rw [hres, if_neg k5, decide_eq_false k7, Bool.or_false, decide_eq_false k0, Bool.false_or]
  all_goals
    have HR := hide hr
    clear k0 hres hr
    go_enter Tryd.func17, Tryd.ntmps17
    go_upto_region 1 with ((with_reducible refine at_list ?_); refine wpList_boxA rfl _ rfl C rfl ?_)
    generalize w.alloc (.cells C 37) = W0 at *
    go_upto_region 4 with fail
    clear c1 c3 k0' k5 k6 k7 e1 e2 h0
    generalize m.ins = L at *
    go_loopw [39] (fun i wr => ∃ k : Nat, k ≤ L.length ∧ i = .int .i64 (k : Int) ∧ Hid ((L.take k).any waits = false ∧ Below W0.heap.size W0 wr)) (fun i _ => (L.length - intOf i).toNat)
    case atStart => exact ⟨0, Nat.zero_le _, rfl, by simp, Below.refl _ _⟩
    case round =>
      obtain ⟨k, hk, rfl, J⟩ := hrel
      by_cases hlt : k < L.length
      · have h1 : (k : Int) < (L.length : Int) := by omega
        have h2 : (0 : Int) ≤ (k : Int) := by omega
        have h5 := HF.out
        have e1 : IntKind.i64.wrap ((k : Int) + 1) = k + 1 := wrapI _ (by omega) (by omega)
        have KK := hide (And.intro (show k + 1 ≤ L.length by omega) (show ((L.length : Int) - ((k : Int) + 1)).toNat < ((L.length : Int) - (k : Int)).toNat by omega))
        obtain ⟨ga, oa, rfl⟩ := HL.out.base (by omega)
        have RG : Hid (wr.rangeAt ga (oa + k * 35) L[k].cells) := (HL.out.below J.out.2).range k hlt
        have AH := hide (any_here waits L k hlt)
        have AT := hide (fun h => any_take waits L k hlt J.out.1 h)
        have JB := hide J.out.2
        generalize L[k] = x at *
        clear hk hlt h5 J
        go_upto_region 6 with ((with_reducible refine at_list ?_); first | refine wpLoadIr _ rfl ga (oa + k * 35) rfl x RG.out (by rfl) ?_ | refine wpList_allocA zAr rfl rfl ?_ | refine wpList_store_newA zAr rfl _ _ rfl _ rfl x.cells.toArray x.size x.all rfl rfl ?_)
        have c5 : (wr.alloc (.cells x.cells.toArray 72)).cell? ⟨wr.heap.size, 34, none⟩ = some (.int .u32 (x.seq.toNat : Int)) := by rw [cell_of_row _ _ _ _ _ _ (heap_alloc_last wr _)]; exact x.at34
        have J2 : Hid (Below W0.heap.size W0 (wr.alloc (.cells x.cells.toArray 72))) := JB.out.alloc JB.out.size _
        generalize wr.alloc (.cells x.cells.toArray 72) = wr2 at *
        clear JB RG
        unfold waits at AH AT
        cases hq : ((x.seq.toNat : Int) != 4294967295)
        · have AT2 := hide (AT.out hq)
          clear AH AT
          go_wp2
          exact ⟨⟨k + 1, KK.out.1, by go_num, AT2.out, J2.out⟩, by simpa [intOf] using KK.out.2⟩
        · have AH2 := hide (AH.out hq)
          clear AH AT
          go_wp2
          go_ret
          exact ⟨by have : res = false := by rw [HR.out]; show (!L.any waits) = false; have q : L.any waits = true := AH2.out; rw [q]; rfl
                    rw [this]; rfl, below_next B1.out J2.out⟩
      · have h1 : ¬ (k : Int) < (L.length : Int) := by omega
        have NI := hide J.out.1
        rw [List.take_of_length_le (by omega)] at NI
        have JB := hide J.out.2
        clear hk hlt J
        go_wp2
        go_ret
        exact ⟨by have : res = true := by rw [HR.out, NI.out]; rfl
                  rw [this]; rfl, below_next B1.out JB.out⟩
end
end Go.Proofs.YtfldpejdpinppaaDoor
