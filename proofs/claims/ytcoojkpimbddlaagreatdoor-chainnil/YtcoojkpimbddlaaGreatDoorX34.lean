/- take of a coin that is not there; Len; Total of no and of one coin: their contracts. Len; Total of one coin: their contracts. When a transaction is final: tx.allLast, tx.Final, the document's Final: their contracts. -/
import Derived.Test.YtcoojkpimbddlaaGreatDoorP0
import Derived.Test.YtcoojkpimbddlaaGreatDoorX33
import Derived.Maps.RangeWalk
import Derived.Test.YtcoojkpimbddlaaGreatDoorX17
namespace Go.Proofs.YtcoojkpimbddlaaGreatDoor
open Go.RowKit
open Go.Deep
open Go.Maps
set_option linter.unusedVariables false
set_option linter.unusedSimpArgs false
theorem Cn.all (c : Cn) : c.cells.toArray.all (·.oneCell') = true := all_of_one (by
  intro v hv
  simp only [Cn.cells, List.mem_cons, List.not_mem_nil, or_false] at hv
  rcases hv with rfl | rfl | rfl | rfl <;> rfl)
def zCn : Cn := ⟨0, ⟨#[]⟩, 0, false⟩
theorem zeroCn (w : World) : (zeroValue 189).run Tryz.prog w = .ok (.agg zCn.cells.toArray) w := by kernel_rfl
section
set_option maxRecDepth 10000
set_option maxHeartbeats 4000000
theorem take_no {B w : World} {gc bm bc n m : Nat} {tip : List UInt8} {h : Int} {D E : DataW Unit} (c : Cst B w gc bm bc n m tip h D E) (p : Tp) (hat : D.atKey (.string p.keyB) zCn.dat = zCn.dat) (hno : Maps.has D (.string p.keyB) = false) : Calls Tryz.prog 96 #[.pointer (some ⟨gc, 0, none⟩), .agg p.cells.toArray] w fun e w' => e = .returned (.tuple #[]) ∧ Below w.heap.size w w' := by
  have b1 := (Below.refl w.heap.size w).alloc (Nat.le_refl _) (.cells p.cells.toArray 160)
  have R1 := hide (heap_alloc_last w (.cells p.cells.toArray 160))
  have B1 := hide b1
  have C1 := hide (c.next b1)
  clear c b1
  have PZ := hide (And.intro p.size p.all)
  have XZ : Hid (zCn.cells.toArray.size = 4) := rfl
  have XO : Hid (zCn.cells.toArray.all (·.oneCell') = true) := by show _ = true; kernel_rfl
  go_enter Tryz.func96, Tryz.ntmps96
  go_upto_region 1 with ((with_reducible refine at_list ?_); refine wpList_boxA rfl _ rfl _ rfl ?_)
  generalize w.alloc (.cells p.cells.toArray 160) = W0 at *
  have DV := hide (Below.refl W0.heap.size W0).drew
  have C2 := hide (C1.out.next DV.out)
  have R2 := hide ((DV.out.block _ (lt_heap R1.out)).trans R1.out)
  have B2 := hide (below_next B1.out DV.out)
  clear C1 R1 DV B1
  refine wp_region_held_drew (S := fun W => Below W0.drew.heap.size W0.drew W) (by kernel_rfl) (Below.refl _ _) (fun hH => ?_)
  generalize W0.drew = V1 at *
  have LK : Hid (∀ W, Below V1.heap.size V1 W → (Instr.lookup 176 (.map (some bm)) (.agg p.cells.toArray) true).run Tryz.prog W = .ok (.tuple #[.agg zCn.cells.toArray, .bool false]) W) := fun W b => by
    obtain ⟨v, ps, hrun, hv⟩ := (C2.out.next b).mp.look_ok lawP Tryz.underlying176 (zeroCn W) (coE_mk zCn) (keyP p)
    rw [hat] at hv
    rw [hno] at hrun
    rw [coE_eq hv] at hrun
    exact hrun
  have CC : Hid (∀ W, Below V1.heap.size V1 W → W.cell? ⟨gc, 33, none⟩ = some (.map (some bm)) ∧ W.heap[w.heap.size]? = some (.cells p.cells.toArray 160 (0, 0))) := fun W b => ⟨(coL_more C2.out.ht (C2.out.next b).row).2.1, (b.block _ (lt_heap R2.out)).trans R2.out⟩
  clear hat hno
  generalize zCn.cells.toArray = ZC at *
  refine wt (i := 0) (v := (.pointer (some ⟨gc, 0, none⟩))) rfl (yl_move (by rfl) _ (by rfl) _ (by rfl)) hH ?_
  change wpAnyH _ _ _ _ _ _ _ (Act.put _ (some 7) _) _
  simp only [Act.put, s0, s1, s2]
  refine wt (i := 1) (v := (.pointer (some ⟨gc, 0, none⟩))) rfl (.inl ⟨by rfl, fun W _ => by go_simp⟩) hH ?_
  change wpAnyH _ _ _ _ _ _ _ (Act.put _ (some 8) _) _
  simp only [Act.put, s0, s1, s2]
  refine wt (i := 2) (v := (.pointer (some ⟨gc, 33, none⟩))) rfl (.inl ⟨by rfl, fun W _ => by go_simp⟩) hH ?_
  change wpAnyH _ _ _ _ _ _ _ (Act.put _ (some 9) _) _
  simp only [Act.put, s0, s1, s2]
  refine wt (i := 3) (v := (.map (some bm))) rfl (.inl ⟨by rfl, fun W hS => by have c4 := (CC.out W hS).1; go_simp⟩) hH ?_
  change wpAnyH _ _ _ _ _ _ _ (Act.put _ (some 10) _) _
  simp only [Act.put, s0, s1, s2]
  refine wt (i := 4) (v := (.agg p.cells.toArray)) rfl (yl_load (by rfl) _ (by rfl) _ p.cells.toArray (by rfl) (fun W hS => ld_row APt PZ.out.1 (CC.out W hS).2)) hH ?_
  change wpAnyH _ _ _ _ _ _ _ (Act.put _ (some 11) _) _
  simp only [Act.put, s0, s1, s2]
  refine wt (i := 5) (v := (.tuple #[.agg ZC, .bool false])) rfl (yl_look16 (by rfl) _ _ _ _ (by rfl) _ _ (by rfl) (by rfl) _ (fun W hS => LK.out W hS)) hH ?_
  change wpAnyH _ _ _ _ _ _ _ (Act.put _ (some 12) _) _
  simp only [Act.put, s0, s1, s2]
  refine wt (i := 6) (v := (.tuple #[.agg ZC, .bool false])) rfl (yl_move (by rfl) _ (by rfl) _ (by rfl)) hH ?_
  change wpAnyH _ _ _ _ _ _ _ (Act.put _ (some 6) _) _
  simp only [Act.put, s0, s1, s2]
  refine wt (i := 7) (v := (.agg ZC)) rfl (.inl ⟨by rfl, fun W _ => by go_simp⟩) hH ?_
  change wpAnyH _ _ _ _ _ _ _ (Act.put _ (some 13) _) _
  simp only [Act.put, s0, s1, s2]
  refine wt (i := 8) (v := (.bool false)) rfl (.inl ⟨by rfl, fun W _ => by go_simp⟩) hH ?_
  change wpAnyH _ _ _ _ _ _ _ (Act.put _ (some 14) _) _
  simp only [Act.put, s0, s1, s2]
  have b3 := (Below.refl V1.heap.size V1).alloc (Nat.le_refl _) (.cells (⟨0, ⟨#[]⟩, 0, false⟩ : Cn).cells.toArray 189)
  refine wpAnyH_ready (rs := [9]) (by kernel_rfl) (by simp) (AllReadyH.cons rfl (fun K1 hK1 => ?_) AllReadyH.nil)
  refine stepAllocA ACn (by rfl) (by rfl) ?_
  have R3 := hide (heap_alloc_last V1 (.cells (⟨0, ⟨#[]⟩, 0, false⟩ : Cn).cells.toArray 189))
  have B3 := hide b3
  refine hK1.out _ _ B3.out (fun hH => ?_)
  clear hK1 b3
  change wpAnyH _ _ _ _ _ _ _ (Act.put _ (some 4) _) _
  simp only [Act.put, s0, s1, s2]
  refine wpAnyH_ready (rs := [10]) (by kernel_rfl) (by simp) (AllReadyH.cons rfl (fun K1 hK1 => ?_) AllReadyH.nil)
  refine stepStoreA ACn (by rfl) _ _ (by rfl) V1.heap.size ZC XZ.out XO.out (by rfl) (by rfl) (⟨0, ⟨#[]⟩, 0, false⟩ : Cn).cells.toArray rfl _ R3.out ?_
  have B4 := hide (below_setRow B3.out (Nat.le_refl V1.heap.size) ZC)
  refine hK1.out _ _ B4.out (fun hH => ?_)
  clear hK1
  change wpAnyH _ _ _ _ _ _ _ (Act.put _ none _) _
  simp only [Act.put]
  refine wt (i := 11) (v := (.bool false)) rfl (.inl ⟨by rfl, fun W _ => by go_simp⟩) hH ?_
  change wpAnyH _ _ _ _ _ _ _ (Act.put _ (some 5) _) _
  simp only [Act.put, s0, s1, s2]
  refine wpAnyH_done (by kernel_rfl) ?_ _
  clear hH
  go_wp2
  exact bodyPost_ret (v := .tuple #[]) (results_none (by kernel_rfl) _ _ _) rfl ⟨rfl, below_next B2.out B4.out⟩
end
theorem one_has {p : Lit} {d : DataW Unit} (hp : WideAt.IsKeyLit p) (kl : Lit) : Maps.has ((DataW.map []).put p d) kl = true ↔ kl = p := by
  constructor
  · intro h
    by_cases e : kl = p
    · exact e
    · rw [has_put_other e] at h
      cases h
  · intro e
    rw [e, has_put_same ⟨_, rfl⟩ hp]
section
set_option maxRecDepth 10000
set_option maxHeartbeats 4000000
end
end Go.Proofs.YtcoojkpimbddlaaGreatDoor
namespace Go.Proofs.YtcoojkpimbddlaaGreatDoor
open Go.RowKit
open Go.Deep
set_option linter.unusedVariables false
def waits (x : Ti) : Bool := ((x.seq.toNat : Int) != 4294967295)
def finB (m : Tm) (h t : Int) : Bool := decide ((m.time.toNat : Int) = 0) || !m.ins.any waits || (if (m.time.toNat : Int) < 500000000 then decide ((m.time.toNat : Int) < h) else decide ((m.time.toNat : Int) < t))
section
set_option maxRecDepth 10000
set_option maxHeartbeats 4000000
theorem allLast_any (ai : Option Addr) (ci : Nat) (L : List Ti) (w : World) (hl : LX KA w (.slice ai L.length ci) L) (hf : L.length * 64 ≤ 140737488355328) : Calls Tryz.prog 280 #[.slice ai L.length ci] w fun e w' => e = .returned (.bool (!L.any waits)) ∧ Below w.heap.size w w' := by
  have HL := hide hl
  have HF := hide hf
  clear hl hf
  obtain ⟨res, hres⟩ : ∃ r : Bool, r = !L.any waits := ⟨_, rfl⟩
  rw [← hres]
  have HR := hide hres
  clear hres
  go_enter Tryz.func280, Tryz.ntmps280
  go_upto_region 2 with fail
  go_loopw [7] (fun i wr => ∃ k : Nat, k ≤ L.length ∧ i = .int .i64 (k : Int) ∧ Hid ((L.take k).any waits = false ∧ Below w.heap.size w wr)) (fun i _ => (L.length - intOf i).toNat)
  case atStart => exact ⟨0, Nat.zero_le _, rfl, by simp, Below.refl _ _⟩
  case round =>
    obtain ⟨k, hk, rfl, J⟩ := hrel
    by_cases hlt : k < L.length
    · have h1 : (k : Int) < (L.length : Int) := by omega
      have h2 : (0 : Int) ≤ (k : Int) := by omega
      have h5 := HF.out
      have e1 : IntKind.i64.wrap ((k : Int) + 1) = k + 1 := wrapI _ (by omega) (by omega)
      have KK := hide (And.intro (show k + 1 ≤ L.length by omega) (show ((L.length : Int) - ((k : Int) + 1)).toNat < ((L.length : Int) - (k : Int)).toNat by omega))
      obtain ⟨ga, oa, rfl⟩ := HL.out.base (by omega)
      have RG : Hid (wr.rangeAt ga (oa + k * 35) L[k].cells) := (HL.out.below J.out.2).range k hlt
      have AH := hide (any_here waits L k hlt)
      have AT := hide (fun h => any_take waits L k hlt J.out.1 h)
      have JB := hide J.out.2
      generalize L[k] = x at *
      clear hk hlt h5 J
      go_upto_region 4 with ((with_reducible refine at_list ?_); first | refine wpLoadI _ rfl ga (oa + k * 35) rfl x RG.out (by rfl) ?_ | refine wpList_allocA AI rfl rfl ?_ | refine wpList_store_newA AI rfl _ _ rfl _ rfl x.cells.toArray x.size x.all rfl rfl ?_)
      have c5 : (wr.alloc (.cells x.cells.toArray 162)).cell? ⟨wr.heap.size, 34, none⟩ = some (.int .u32 (x.seq.toNat : Int)) := by rw [cell_of_row _ _ _ _ _ _ (heap_alloc_last wr _)]; exact x.at34
      have J2 : Hid (Below w.heap.size w (wr.alloc (.cells x.cells.toArray 162))) := JB.out.alloc JB.out.size _
      generalize wr.alloc (.cells x.cells.toArray 162) = wr2 at *
      clear JB RG
      unfold waits at AH AT
      cases hq : ((x.seq.toNat : Int) != 4294967295)
      · have AT2 := hide (AT.out hq)
        clear AH AT
        go_wp2
        exact ⟨⟨k + 1, KK.out.1, by go_num, AT2.out, J2.out⟩, by simpa [intOf] using KK.out.2⟩
      · have AH2 := hide (AH.out hq)
        clear AH AT
        go_wp2
        go_ret
        exact ⟨by have : res = false := by rw [HR.out]; show (!L.any waits) = false; have q : L.any waits = true := AH2.out; rw [q]; rfl
                  rw [this]; rfl, J2.out⟩
    · have h1 : ¬ (k : Int) < (L.length : Int) := by omega
      have NI := hide J.out.1
      rw [List.take_of_length_le (by omega)] at NI
      have JB := hide J.out.2
      clear hk hlt J
      go_wp2
      go_ret
      exact ⟨by have : res = true := by rw [HR.out, NI.out]; rfl
                rw [this]; rfl, JB.out⟩
theorem final_any (m : Tm) (ai : Option Addr) (ci : Nat) (ao : Option Addr) (co : Nat) (w : World) (hl : LT w m ai ci ao co) (hf : m.fit) (h : Int) (t : UInt32) : Calls Tryz.prog 226 #[.agg (m.cells ai ci ao co), .int .i64 h, .int .u32 (t.toNat : Int)] w fun e w' => e = .returned (.bool (finB m h (t.toNat : Int))) ∧ Below w.heap.size w w' := by
  have b1 := (Below.refl w.heap.size w).alloc (Nat.le_refl _) (.cells (m.cells ai ci ao co) 152)
  have r1 := heap_alloc_last w (.cells (m.cells ai ci ao co) 152)
  have c1 : (w.alloc (.cells (m.cells ai ci ao co) 152)).cell? ⟨w.heap.size, 1, none⟩ = some (.slice ai m.ins.length ci) := by rw [cell_of_row _ _ _ _ _ _ r1]; rfl
  have c3 : (w.alloc (.cells (m.cells ai ci ao co) 152)).cell? ⟨w.heap.size, 3, none⟩ = some (.int .u32 (m.time.toNat : Int)) := by rw [cell_of_row _ _ _ _ _ _ r1]; rfl
  have R1 := hide r1
  have B1 := hide b1
  have HA := hide (allLast_any ai ci m.ins _ (hl.below b1).i hf.i)
  have ht := m.time.toNat_lt
  have TM : Hid ((m.time.toNat : Int) = m.time.toNat) := rfl
  unfold finB
  clear b1 r1 hl hf
  generalize hC : m.cells ai ci ao co = C at *
  have e1 : IntKind.i64.wrap (m.time.toNat : Int) = (m.time.toNat : Int) := wrapI _ (by omega) (by omega)
  have CT : Hid (∀ W, Below (w.alloc (.cells C 152)).heap.size (w.alloc (.cells C 152)) W → W.cell? ⟨w.heap.size, 3, none⟩ = some (.int .u32 (m.time.toNat : Int))) := fun W b => by rw [cell_of_row _ _ _ _ _ _ ((b.block _ (lt_heap R1.out)).trans R1.out), ← hC]; rfl
  generalize (m.time.toNat : Int) = tm at *
  generalize (t.toNat : Int) = tt at *
  generalize (!m.ins.any waits) = al at *
  clear R1 TM hC
  by_cases h0 : tm = 0
  · subst h0
    rw [show (decide ((0 : Int) = 0) || al || (if (0 : Int) < 500000000 then decide (0 < h) else decide (0 < tt))) = true by simp]
    go_enter Tryz.func226, Tryz.ntmps226
    go_upto_region 1 with ((with_reducible refine at_list ?_); refine wpList_boxA rfl _ rfl C rfl ?_)
    generalize w.alloc (.cells C 152) = W0 at *
    go_wp2
    go_ret
    exact ⟨rfl, B1.out⟩
  · have h0' : (tm == 0) = false := by simp [h0]
    rw [show (decide (tm = 0) || al || (if tm < 500000000 then decide (tm < h) else decide (tm < tt))) = (al || (if tm < 500000000 then decide (tm < h) else decide (tm < tt))) by simp [h0]]
    clear h0
    cases al
    · rw [Bool.false_or]
      by_cases h5 : tm < 500000000
      · rw [if_pos h5]
        generalize hd : decide (tm < h) = dd at *
        go_enter Tryz.func226, Tryz.ntmps226
        go_upto_region 1 with ((with_reducible refine at_list ?_); refine wpList_boxA rfl _ rfl C rfl ?_)
        generalize w.alloc (.cells C 152) = W0 at *
        go_wp2_with (go_at_call 280; refine HA.out.mono ?_; rintro r W1 ⟨rfl, b1⟩; have B2 := hide b1; have c4 := CT.out _ b1; clear b1 c3 c1)
        go_ret
        exact ⟨rfl, below_next B1.out B2.out⟩
      · rw [if_neg h5]
        generalize hd : decide (tm < tt) = dd at *
        go_enter Tryz.func226, Tryz.ntmps226
        go_upto_region 1 with ((with_reducible refine at_list ?_); refine wpList_boxA rfl _ rfl C rfl ?_)
        generalize w.alloc (.cells C 152) = W0 at *
        go_wp2_with (go_at_call 280; refine HA.out.mono ?_; rintro r W1 ⟨rfl, b1⟩; have B2 := hide b1; have c4 := CT.out _ b1; clear b1 c3 c1)
        go_ret
        exact ⟨rfl, below_next B1.out B2.out⟩
    · rw [Bool.true_or]
      go_enter Tryz.func226, Tryz.ntmps226
      go_upto_region 1 with ((with_reducible refine at_list ?_); refine wpList_boxA rfl _ rfl C rfl ?_)
      generalize w.alloc (.cells C 152) = W0 at *
      go_wp2_with (go_at_call 280; refine HA.out.mono ?_; rintro r W1 ⟨rfl, b1⟩; have B2 := hide b1; clear b1 c3 c1)
      go_ret
      exact ⟨rfl, below_next B1.out B2.out⟩
end
end Go.Proofs.YtcoojkpimbddlaaGreatDoor
