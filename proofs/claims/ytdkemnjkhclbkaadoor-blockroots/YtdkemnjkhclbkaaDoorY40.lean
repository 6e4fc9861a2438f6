/- The document's Root and Whole of a block: their contracts. The document's Whole: its contract. -/
import Derived.Test.YtdkemnjkhclbkaaDoorY39
import Derived.Test.YtdkemnjkhclbkaaDoorY33
namespace Go.Proofs.YtdkemnjkhclbkaaDoor
open Go.RowKit
open Go.Deep
set_option linter.unusedVariables false
theorem wpLoadTr {w : World} {ops : Array Oper} {rest : List Oper} {o : Oper} {a : Act} {Q : Exit → Act → World → Prop} (x : Operand) (ho : o.op = .load 59 x) (g off : Nat) (hx : a.eval x = .pointer (some ⟨g, off, none⟩)) (y : Tq) (hr : w.rangeAt g off y.cells) (hw : Region.wanted o (yielded ops a.tmps) = true)
    (h : wpList Tryd.prog ops Q rest (a.put o.dst (.agg y.arr)) w) : wpList Tryd.prog ops Q (o :: rest) a w := wpLoadX KTr Tryd.underlying59 rfl x ho g off hx y hr hw h
section
set_option maxRecDepth 10000
set_option maxHeartbeats 4000000
theorem rbroot_any (v : Value) (L : List Tq) (w : World) (hL : LQr w v L) (hn : L.length < 4398046511104) : Calls Tryd.prog 7 #[v] w fun e w' => e = .returned (.tuple #[.agg (hc (rtL (idsL L))), .bool (muL (idsL L))]) ∧ Below w.heap.size w w' := by
  obtain ⟨ao, cap, rfl⟩ := hL.l.form
  have b1 := (Below.refl w.heap.size w).alloc (Nat.le_refl _) (.cells (hc zeros) 23)
  have R1 := hide (heap_alloc_last w (.cells (hc zeros) 23))
  have B1 := hide b1
  have HL := hide (hL.below b1)
  have HN := hide hn
  have IDL := hide (idsL_len L)
  have HR : Hid (∀ v W, LH W v (idsL L) → Calls Tryd.prog 24 #[v] W fun e w' => e = .returned (.tuple #[.agg (hc (rtL (idsL L))), .bool (muL (idsL L))]) ∧ Below W.heap.size W w') := fun v W l => by
    by_cases h0 : L = []
    · subst h0
      exact rroot_none v W l
    · exact rroot_some v (idsL L) W l (by rw [idsL_len]; exact List.length_pos_iff.2 h0) (by rw [idsL_len]; exact hn)
  have RL := hide (rtL_len (idsL_32 L))
  have HID : Hid (∀ (x : Tq) W, x.canR W → Calls Tryd.prog 23 #[.agg x.arr] W fun e w' => e = .returned (.tuple #[.agg (hc x.m.idT), .bool (decide (x.m.toldE = 0))]) ∧ Below W.heap.size W w') := fun x W c => rid_any x.m x.ai x.ci x.ao x.co W c.1 c.2
  clear hL b1
  go_enter Tryd.func7, Tryd.ntmps7
  go_upto_region 1 with ((with_reducible refine at_list ?_); refine wpList_allocA A24 rfl rfl ?_)
  generalize w.alloc (.cells (hc zeros) 23) = W0 at *
  have J0 : Hid (Oj 23 W0 (W0.alloc (.cells #[] 23)) (.slice (some ⟨W0.heap.size, 0, none⟩) 0 0) ((idsL L).take 0)) := ⟨by rw [List.take_zero]; exact OH.new0 W0, (Below.refl _ _).alloc (Nat.le_refl _) _, fun g hg => by cases hg; exact Nat.le_refl _⟩
  go_upto_region 3 with ((with_reducible refine at_list ?_); refine ET.wpBs0 ER rfl rfl ?_)
  generalize W0.alloc (.cells #[] 23) = W00 at *
  clear hn
  go_loopw [4, 5] (fun v d wr => ∃ k : Nat, k ≤ L.length ∧ d = .int .i64 (k : Int) ∧ Hid (Oj 23 W0 wr v ((idsL L).take k))) (fun _ d _ => (L.length - intOf d).toNat)
  case atStart => exact ⟨0, Nat.zero_le _, rfl, J0⟩
  case round =>
    clear J0
    obtain ⟨k, hk, rfl, J⟩ := hrel
    by_cases hlt : k < L.length
    · have h1 : (k : Int) < (L.length : Int) := by omega
      have h2 : (0 : Int) ≤ (k : Int) := by omega
      have hn := HN.out
      have e1 : IntKind.i64.wrap ((k : Int) + 1) = k + 1 := wrapI _ (by omega) (by omega)
      have KK := hide (And.intro (show k + 1 ≤ L.length by omega) (show ((L.length : Int) - ((k : Int) + 1)).toNat < ((L.length : Int) - (k : Int)).toNat by omega))
      obtain ⟨ga, oa, rfl⟩ := HL.out.l.base (by omega)
      have RG : Hid (wr.rangeAt ga (oa + k * 4) L[k].cells) := (HL.out.below J.out.bel).l.range k hlt
      have CN := hide (fun W (b : Below W0.heap.size W0 W) => (HL.out.at k hlt).below b)
      have SN := hide (idsL_next L k hlt)
      have SZ := hide (show ((idsL L).take k).length + 1 ≤ 4398046511104 by rw [List.length_take, IDL.out]; omega)
      generalize L[k] = x at *
      clear hk hlt hn
      have IL := hide x.m.idT_len
      have HIx := hide (fun W c => HID.out x W c)
      have IZ : Hid (¬ x.m.toldE = 0 → x.m.idT = zeros) := fun h => by unfold Tm.idT; rw [if_neg h]
      have ZL := hide zeros_len
      generalize x.m.idT = D at *
      by_cases hE : x.m.toldE = 0
      · have d1 : decide (x.m.toldE = 0) = true := decide_eq_true hE
        rw [d1] at HIx
        clear hE d1
        go_upto_region 6 with (first | (go_at_call 23; refine (HIx.out _ (CN.out _ J.out.bel)).mono ?_; rintro r W2 ⟨rfl, be⟩; have J2 := hide (J.out.next be); clear be) | ((with_reducible refine at_list ?_); first | refine wpLoadTr _ rfl ga (oa + k * 4) rfl x RG.out (by rfl) ?_ | refine wpList_allocA A24 rfl rfl ?_ | refine wpList_store_newA A24 rfl _ _ rfl _ rfl (hc D) (by rw [hc_size, IL.out]) (hc_one _) rfl rfl ?_))
        have J3 := hide (J2.out.next ((Below.refl W2.heap.size W2).alloc (Nat.le_refl _) (.cells (hc D) 23)))
        have RD := hide (heap_alloc_last W2 (.cells (hc D) 23))
        have DZ : Hid ((hc D).size = 32) := by show _ = _; rw [hc_size, IL.out]
        clear J2 J RG
        generalize W2.alloc (.cells (hc D) 23) = W3 at *
        generalize W2.heap.size = g7 at *
        have J4 := hide (J3.out.next ((Below.refl W3.heap.size W3).alloc (Nat.le_refl _) (.cells (hc D) 23)))
        go_wp2_with ((with_reducible refine at_list ?_); first | refine wpList_loadS A24 _ rfl g7 rfl (hc D) DZ.out 23 RD.out (by rfl) ?_ | refine ET.wpBs1 ER rfl _ rfl D IL.out rfl ?_ | (refine ET.wpApp ER rfl _ _ rfl _ _ rfl J4.out.own ⟨_, 0, none⟩ D IL.out rfl (one_newH _ _) SZ.out ?_; intro v' W5 hown' hon5; have J5 := hide (J4.out.onto hon5 hown'); clear hown' hon5))
        exact ⟨⟨k + 1, KK.out.1, by go_num, by rw [← SN.out]; exact J5⟩, by simpa [intOf] using KK.out.2⟩
      · have d1 : decide (x.m.toldE = 0) = false := decide_eq_false hE
        rw [d1] at HIx
        have hz := IZ.out hE
        clear IZ hE d1
        subst hz
        go_upto_region 6 with (first | (go_at_call 23; refine (HIx.out _ (CN.out _ J.out.bel)).mono ?_; rintro r W2 ⟨rfl, be⟩; have J2 := hide (J.out.next be); clear be) | ((with_reducible refine at_list ?_); first | refine wpLoadTr _ rfl ga (oa + k * 4) rfl x RG.out (by rfl) ?_ | refine wpList_allocA A24 rfl rfl ?_ | refine wpList_store_newA A24 rfl _ _ rfl _ rfl (hc zeros) (by rw [hc_size, ZL.out]) (hc_one _) rfl rfl ?_))
        have b3 := (Below.refl W2.heap.size W2).alloc (Nat.le_refl _) (.cells (hc zeros) 23)
        have RD := hide (heap_alloc_last W2 (.cells (hc zeros) 23))
        have J3 := hide (J2.out.next (below_setRow b3 (Nat.le_refl _) (hc zeros)))
        have DZ : Hid ((hc zeros).size = 32) := by show _ = _; rw [hc_size, ZL.out]
        clear J2 J RG b3
        generalize W2.alloc (.cells (hc zeros) 23) = W3 at *
        generalize W2.heap.size = g7 at *
        have RE := hide (setRow_heap _ _ _ (hc zeros) _ _ RD.out)
        go_upto_region 8 with ((with_reducible refine at_list ?_); first | refine wpList_buildA A24 rfl rfl ?_ | refine wpList_storeA A24 rfl _ _ rfl g7 (hc zeros) DZ.out (hc_one _) rfl rfl (hc zeros) DZ.out 23 RD.out ?_)
        generalize W3.setRow g7 (hc zeros) = W4 at *
        have J4 := hide (J3.out.next ((Below.refl W4.heap.size W4).alloc (Nat.le_refl _) (.cells (hc zeros) 23)))
        go_wp2_with ((with_reducible refine at_list ?_); first | refine wpList_loadS A24 _ rfl g7 rfl (hc zeros) DZ.out 23 RE.out (by rfl) ?_ | refine ET.wpBs1 ER rfl _ rfl zeros ZL.out rfl ?_ | (refine ET.wpApp ER rfl _ _ rfl _ _ rfl J4.out.own ⟨_, 0, none⟩ zeros ZL.out rfl (one_newH _ _) SZ.out ?_; intro v' W5 hown' hon5; have J5 := hide (J4.out.onto hon5 hown'); clear hown' hon5))
        exact ⟨⟨k + 1, KK.out.1, by go_num, by rw [← SN.out]; exact J5⟩, by simpa [intOf] using KK.out.2⟩
    · have h1 : ¬ (k : Int) < (L.length : Int) := by omega
      have JR := J.out
      rw [List.take_of_length_le (by rw [IDL.out]; omega)] at JR
      have J2 := hide JR
      have R2 := hide ((JR.bel.block _ (lt_heap R1.out)).trans R1.out)
      clear hk hlt J JR
      generalize hrt : rtL (idsL L) = D at *
      generalize hmu : muL (idsL L) = V at *
      have HRT := hide hrt
      have HMU := hide hmu
      clear hrt hmu
      go_wp2_with (first | (go_at_call 24; refine (HR.out _ _ J2.out.own.read).mono ?_; rintro r W2 ⟨rfl, be⟩; have D2 := hide (below_next J2.out.bel be); have R3 := hide ((be.block _ (lt_heap R2.out)).trans R2.out); clear be) | ((with_reducible refine at_list ?_); refine wpList_storeA A24 rfl _ _ rfl w.heap.size (hc D) (by rw [hc_size, RL.out]) (hc_one _) rfl rfl (hc zeros) (by rw [hc_size, zeros_len]) 23 R3.out ?_))
      exact bodyPost_ret (v := .tuple #[.agg (hc D), .bool V]) (resA2K A24 Tryd.results7 _ _ w.heap.size 23 _ (by rw [hc_size, RL.out]) rfl (setRow_heap _ _ _ _ _ _ R3.out) _ rfl) rfl ⟨by rw [HRT.out, HMU.out], below_setRow (below_next B1.out D2.out) (Nat.le_refl _) _⟩
end
end Go.Proofs.YtdkemnjkhclbkaaDoor
namespace Go.Proofs.YtdkemnjkhclbkaaDoor
open Go.RowKit
open Go.Deep
set_option linter.unusedVariables false
section
set_option maxRecDepth 10000
set_option maxHeartbeats 4000000
theorem rwhole_any (h : Hd) (v : Value) (L : List Tq) (w : World) (hL : LQr w v L) (hn : L.length < 4398046511104) : Calls Tryd.prog 10 #[.agg (bkA h v)] w fun e w' => e = .returned (.bool (whB h L)) ∧ Below w.heap.size w w' := by
  obtain ⟨ao, cap, rfl⟩ := hL.l.form
  have b1 := (Below.refl w.heap.size w).alloc (Nat.le_refl _) (.cells (bkA h (.slice ao L.length cap)) 36)
  have R1 := hide (heap_alloc_last w (.cells (bkA h (.slice ao L.length cap)) 36))
  have B1 := hide b1
  have HL := hide (hL.below b1)
  have HR := hide (fun W l => rbroot_any (.slice ao L.length cap) L W l hn)
  have RH : Hid (∀ W : World, W.heap[w.heap.size]? = some (.cells (bkA h (.slice ao L.length cap)) 36 (0, 0)) → W.rangeAt w.heap.size 33 (cellsL h.root) ∧ W.cell? ⟨w.heap.size, 68, none⟩ = some (.slice ao L.length cap)) := fun W e => ⟨by have := h.rootR (bkA_head e); rwa [Nat.zero_add] at this, bkA_txs e⟩
  have c1 := (RH.out _ R1.out).2
  have RL := hide (rtL_len (idsL_32 L))
  have HL2 := hide h.hr
  have EQ : Hid (∀ W, (Op.equalIn 10000 23 (.agg (hc (rtL (idsL L)))) (.agg (hc h.root))).run Tryd.prog W = .ok (rtL (idsL L) == h.root) W) := fun W => eqC_bytes (rtL (idsL L)) h.root 32 (rtL_len (idsL_32 L)) h.hr 23 Tryd.underlying23 9998 W
  have HG : Tryd.prog.eqGuardType Tryd.prog.depth 23 = false := by kernel_rfl
  unfold whB
  clear b1 hL
  generalize rtL (idsL L) = RT at *
  generalize muL (idsL L) = MU at *
  generalize h.root = HRT at *
  generalize hE : (RT == HRT) = E at *
  clear hE
  generalize bkA h (.slice ao L.length cap) = C at *
  go_enter Tryd.func10, Tryd.ntmps10
  go_upto_region 1 with ((with_reducible refine at_list ?_); refine wpList_boxA rfl _ rfl C rfl ?_)
  generalize w.alloc (.cells C 36) = W0 at *
  go_upto_region 2 with (first | (go_at_call 7; refine (HR.out _ HL.out).mono ?_; rintro r W1 ⟨rfl, be⟩; have D1 := hide be; clear be) | ((with_reducible refine at_list ?_); first | refine wpList_allocA A24 rfl rfl ?_ | refine wpList_store_newA A24 rfl _ _ rfl _ rfl (hc RT) (by rw [hc_size, RL.out]) (hc_one _) rfl rfl ?_))
  have D2 := hide (below_next D1.out ((Below.refl W1.heap.size W1).alloc (Nat.le_refl _) (.cells (hc RT) 23)))
  have R3 := hide (heap_alloc_last W1 (.cells (hc RT) 23))
  clear c1 D1
  generalize W1.alloc (.cells (hc RT) 23) = W2 at *
  generalize W1.heap.size = g3 at *
  obtain ⟨rr, c2⟩ := RH.out _ ((D2.out.block _ (lt_heap R1.out)).trans R1.out)
  have RR := hide rr
  have RZ : Hid ((hc RT).size = 32) := by show _ = _; rw [hc_size, RL.out]
  clear rr
  by_cases h0 : 0 < L.length
  · have q1 : decide ((L.length : Int) > 0) = true := decide_eq_true (by omega)
    have q2 : decide (0 < L.length) = true := decide_eq_true h0
    have H0 := hide h0
    clear hn
    cases E <;> cases MU
    all_goals
      go_wp2_with ((with_reducible refine at_list ?_); first | refine wpList_loadS A24 _ rfl g3 rfl (hc RT) RZ.out 23 R3.out (by rfl) ?_ | refine wpLoadH32 _ rfl w.heap.size 33 rfl HRT HL2.out RR.out (by rfl) ?_ | refine wpList_eql 23 _ _ _ rfl (hc RT) (hc HRT) rfl rfl (by rfl) HG _ EQ.out ?_)
      go_ret
      exact ⟨by first | rfl | (rw [decide_eq_true H0.out]; rfl), below_next B1.out D2.out⟩
  · have q1 : decide ((L.length : Int) > 0) = false := decide_eq_false (by omega)
    have q2 : decide (0 < L.length) = false := decide_eq_false h0
    have H0 := hide h0
    clear hn
    go_wp2
    go_ret
    exact ⟨by first | rfl | (rw [decide_eq_false H0.out]; rfl), below_next B1.out D2.out⟩
end
end Go.Proofs.YtdkemnjkhclbkaaDoor
