/- NewCoins; mayStand of a block of one coinbase: their contracts. 'm[k]++': an entry that is found or made, and a value that is laid into it. put: its contract. -/
import Derived.Test.YtcoojkpimbddlaaGreatDoorP0
import Derived.Test.YtcoojkpimbddlaaGreatDoorX32
import Derived.Test.YtcoojkpimbddlaaGreatDoorX08
namespace Go.Proofs.YtcoojkpimbddlaaGreatDoor
open Go.RowKit
open Go.Deep
open Go.Maps
set_option linter.unusedVariables false
set_option linter.unusedSimpArgs false
structure Ok1 (h : Hd) (x : Tq) (k : Nat) : Prop where
  z : (bkB h [x]).length ≤ 8192
  r : rtL (idsL [x]) = h.root
  m : muL (idsL [x]) = false
  b : x.m.base = true
  c : x.m.chk = 0
  g : x.m.hgt = (k, true)
  key : ∀ y ∈ x.m.ins, y.key.size ≤ maxLen
section
variable {S : World → Prop} {ops : Array Oper} {o : Oper} {a : Act}
theorem yl_neq16 (hw : Region.wanted o (yielded ops a.tmps) = true) (t : TypeId) (x y : Operand) (t2 : TypeId) (ho : o.op = .binOp .neq t x y t2) (c d : Array Value) (hx : a.eval x = .agg c) (hy : a.eval y = .agg d) (hg : Tryz.prog.eqGuardType Tryz.prog.depth t = false)
    (v : Bool) (hr : ∀ W, (Op.equalIn 10000 t (.agg c) (.agg d)).run Tryz.prog W = .ok v W) : YieldsIf Tryz.prog ops S o (.bool (!v)) a :=
  .inl ⟨hw, fun W _ => by
    unfold execOp
    simp only [ho, hx, hy, Sem.run_bind, run_eqGuard_agg (P := Tryz.prog) W .neq t x y c d hg, run_neq_struct, hr W, Result.andThen_ok, Sem.run_pure]⟩
end
section
set_option maxRecDepth 10000
set_option maxHeartbeats 4000000
theorem newCoins_any (w : World) (hK : Kg w) : Calls Tryz.prog 18 #[] w fun e w' => ∃ gc bm bc, e = .returned (.pointer (some ⟨gc, 0, none⟩)) ∧ Cst w w' gc bm bc 0 0 (gH.at 1).id 0 (.map []) (.map []) := by
  have HG : Hid (∀ W, Kg W → Calls Tryz.prog 45 #[] W fun e w' => ∃ ao cap, e = .returned (.agg (bkA (gH.at 1) (.slice ao 1 cap))) ∧ Below W.heap.size W w') := fun W q => (genesis_any W q).mono (by rintro e w' ⟨ao, cap, y, rfl, _, _, be⟩; exact ⟨ao, cap, rfl, be⟩)
  have HI : Hid (∀ W, Kg W → Calls Tryz.prog 46 #[.agg (gH.at 1).cells.toArray] W fun e w' => e = .returned (.agg (hc (gH.at 1).id)) ∧ Below W.heap.size W w') := fun W q => hid_any (gH.at 1) W q
  have HN := hide (fun W => noCoins_any (gH.at 1).id (Hd.id_len _) 0 W)
  have KS : Hid (∀ W, Below w.heap.size w W → Kg W) := fun W b => hK.next b
  have BR := hide (Below.refl w.heap.size w)
  clear hK
  generalize (gH.at 1).id = ID at *
  generalize gH.at 1 = HH at *
  generalize hCI : hc ID = CI at *
  clear hCI
  go_enter Tryz.func18, Tryz.ntmps18
  go_wp2_with (first | (go_at_call 45; refine (HG.out _ (KS.out _ BR.out)).mono ?_; rintro e W1 ⟨ao, cap, rfl, be⟩; have D1 := hide be; clear be) | (go_at_call 46; refine (HI.out _ (KS.out _ D1.out)).mono ?_; rintro e W2 ⟨rfl, be⟩; have D2 := hide (below_next D1.out be); clear be) | (go_at_call 73; refine (HN.out _).mono ?_; rintro e W3 ⟨gc, bm, bc, rfl, cs⟩; have C3 := hide (cs.base D2.out); clear cs) | ((with_reducible refine at_list ?_); refine wpFieldBk16 _ rfl HH (.slice ao 1 cap) rfl (by rfl) ?_))
  go_ret
  exact ⟨gc, bm, bc, rfl, C3.out⟩
theorem mayStand_yes {B w : World} {gc bm bc n m : Nat} {h : Hd} {k : Nat} {D E : DataW Unit} (c : Cst B w gc bm bc n m h.prev (k : Int) D E) (hk : k < 2147483647) (v : Value) (x : Tq) (hL : LQ w v [x]) (ok : Ok1 h x (k + 1)) (hK : Kg w) : Calls Tryz.prog 163 #[.pointer (some ⟨gc, 0, none⟩), .agg (bkA h v), .int .i64 ((k : Int) + 1)] w fun e w' => e = .returned (.int .i64 0) ∧ Below w.heap.size w w' := by
  obtain ⟨ao, cap, rfl⟩ := hL.l.form
  obtain ⟨ga, oa, rfl⟩ := hL.l.base (by simp)
  have b1 := (Below.refl w.heap.size w).alloc (Nat.le_refl _) (.cells (bkA h (.slice (some ⟨ga, oa, none⟩) [x].length cap)) 62)
  have R1 := hide (heap_alloc_last w (.cells (bkA h (.slice (some ⟨ga, oa, none⟩) [x].length cap)) 62))
  have B1 := hide b1
  have HX := hide (fun W (b : Below (w.alloc (.cells (bkA h (.slice (some ⟨ga, oa, none⟩) [x].length cap)) 62)).heap.size (w.alloc (.cells (bkA h (.slice (some ⟨ga, oa, none⟩) [x].length cap)) 62)) W) => And.intro (hL.below (below_next b1 b)) (And.intro (c.next (below_next b1 b)) (And.intro (hK.next (below_next b1 b)) ((b.block _ (lt_heap R1.out)).trans R1.out))))
  have HC := hide (fun W l q => checkV_one h (.slice (some ⟨ga, oa, none⟩) [x].length cap) x W l ok.z ok.r ok.m ok.b ok.c q)
  have HH : Hid (∀ W, x.can W → Calls Tryz.prog 225 #[.agg x.arr] W fun e w' => e = .returned (.tuple #[.int .i64 ((k : Int) + 1), .bool true]) ∧ Below W.heap.size W w') := fun W q => by
    have := height_any x.m x.ai x.ci x.ao x.co W q.1 q.2 ok.key
    rw [ok.g] at this
    exact this
  have RH : Hid (∀ W : World, W.heap[w.heap.size]? = some (.cells (bkA h (.slice (some ⟨ga, oa, none⟩) [x].length cap)) 62 (0, 0)) → W.rangeAt w.heap.size 1 (cellsL h.prev) ∧ W.cell? ⟨w.heap.size, 68, none⟩ = some (.slice (some ⟨ga, oa, none⟩) [x].length cap)) := fun W e => ⟨by have := h.prevR (bkA_head e); rwa [Nat.zero_add] at this, bkA_txs e⟩
  have HP := hide h.hp
  have EQ : Hid (∀ W, (Op.equalIn 10000 46 (.agg (hc h.prev)) (.agg (hc h.prev))).run Tryz.prog W = .ok true W) := fun W => by
    have := eqC_bytes h.prev h.prev 32 h.hp h.hp 46 Tryz.underlying46 9998 W
    rwa [beq_self_eq_true] at this
  have EG : Hid (Tryz.prog.eqGuardType Tryz.prog.depth 46 = false) := by show _ = _; kernel_rfl
  have CN := hide (fun W (l : LQ W (.slice (some ⟨ga, oa, none⟩) [x].length cap) [x]) => And.intro (show W.rangeAt ga (oa + 0 * 4) x.cells from l.l.range 0 (by simp)) (l.t x (by simp)))
  have BZ : Hid ((bkA h (.slice (some ⟨ga, oa, none⟩) [x].length cap)).size = 69) := bkA_size _ _
  have e1 : IntKind.i64.wrap ((k : Int) + 1) = (k : Int) + 1 := wrapI _ (by omega) (by omega)
  clear b1 hL hK ok c
  rw [show [x].length = 1 from rfl] at *
  generalize h.prev = PV at *
  generalize bkA h (.slice (some ⟨ga, oa, none⟩) 1 cap) = C at *
  go_enter Tryz.func163, Tryz.ntmps163
  go_upto_region 1 with ((with_reducible refine at_list ?_); refine wpList_boxA rfl _ rfl C rfl ?_)
  generalize w.alloc (.cells C 62) = W0 at *
  go_upto_region 3 with fail
  have DV := hide (Below.refl W0.heap.size W0).drew
  refine wp_region_held_drew (S := fun W => Below W0.heap.size W0 W) (by kernel_rfl) DV.out (fun hH => ?_)
  generalize W0.drew = V1 at *
  refine wt (i := 0) (v := (.pointer (some ⟨w.heap.size, 0, none⟩))) rfl (.inl ⟨by rfl, fun W _ => by go_simp⟩) hH ?_
  change wpAnyH _ _ _ _ _ _ _ (Act.put _ (some 12) _) _
  simp only [Act.put, s0, s1, s2]
  refine wt (i := 1) (v := (.pointer (some ⟨w.heap.size, 1, none⟩))) rfl (.inl ⟨by rfl, fun W _ => by go_simp⟩) hH ?_
  change wpAnyH _ _ _ _ _ _ _ (Act.put _ (some 13) _) _
  simp only [Act.put, s0, s1, s2]
  refine wt (i := 2) (v := (.agg (hc PV))) rfl (yl_load (by rfl) _ (by rfl) _ (hc PV) (by rfl) (fun W hS => ld_hash PV HP.out (RH.out W (HX.out W hS).2.2.2).1)) hH ?_
  change wpAnyH _ _ _ _ _ _ _ (Act.put _ (some 14) _) _
  simp only [Act.put, s0, s1, s2]
  refine wt (i := 3) (v := (.pointer (some ⟨gc, 0, none⟩))) rfl (yl_move (by rfl) _ (by rfl) _ (by rfl)) hH ?_
  change wpAnyH _ _ _ _ _ _ _ (Act.put _ (some 15) _) _
  simp only [Act.put, s0, s1, s2]
  refine wt (i := 4) (v := (.pointer (some ⟨gc, 0, none⟩))) rfl (.inl ⟨by rfl, fun W _ => by go_simp⟩) hH ?_
  change wpAnyH _ _ _ _ _ _ _ (Act.put _ (some 16) _) _
  simp only [Act.put, s0, s1, s2]
  refine wt (i := 5) (v := (.pointer (some ⟨gc, 0, none⟩))) rfl (.inl ⟨by rfl, fun W _ => by go_simp⟩) hH ?_
  change wpAnyH _ _ _ _ _ _ _ (Act.put _ (some 17) _) _
  simp only [Act.put, s0, s1, s2]
  refine wt (i := 6) (v := (.agg (hc PV))) rfl (yl_load (by rfl) _ (by rfl) _ (hc PV) (by rfl) (fun W hS => ld_hash PV HP.out (coL_tip (HX.out W hS).2.1.row))) hH ?_
  change wpAnyH _ _ _ _ _ _ _ (Act.put _ (some 18) _) _
  simp only [Act.put, s0, s1, s2]
  refine wt (i := 7) (v := (.bool (!true))) rfl (yl_neq16 (by rfl) _ _ _ _ (by rfl) (hc PV) (hc PV) (by rfl) (by rfl) EG.out true EQ.out) hH ?_
  change wpAnyH _ _ _ _ _ _ _ (Act.put _ (some 19) _) _
  simp only [Act.put, s0, s1, s2]
  refine wt (i := 8) (v := (.bool (!true))) rfl (yl_move (by rfl) _ (by rfl) _ (by rfl)) hH ?_
  change wpAnyH _ _ _ _ _ _ _ (Act.put _ (some 20) _) _
  simp only [Act.put, s0, s1, s2]
  refine wt (i := 9) (v := (.int .i64 ((k : Int) + 1))) rfl (yl_move (by rfl) _ (by rfl) _ (by rfl)) hH ?_
  change wpAnyH _ _ _ _ _ _ _ (Act.put _ (some 21) _) _
  simp only [Act.put, s0, s1, s2]
  refine wt (i := 10) (v := (.pointer (some ⟨gc, 0, none⟩))) rfl (yl_move (by rfl) _ (by rfl) _ (by rfl)) hH ?_
  change wpAnyH _ _ _ _ _ _ _ (Act.put _ (some 22) _) _
  simp only [Act.put, s0, s1, s2]
  refine wt (i := 11) (v := (.pointer (some ⟨gc, 0, none⟩))) rfl (.inl ⟨by rfl, fun W _ => by go_simp⟩) hH ?_
  change wpAnyH _ _ _ _ _ _ _ (Act.put _ (some 23) _) _
  simp only [Act.put, s0, s1, s2]
  refine wt (i := 12) (v := (.pointer (some ⟨gc, 32, none⟩))) rfl (.inl ⟨by rfl, fun W _ => by go_simp⟩) hH ?_
  change wpAnyH _ _ _ _ _ _ _ (Act.put _ (some 24) _) _
  simp only [Act.put, s0, s1, s2]
  refine wt (i := 13) (v := (.int .i64 (k : Int))) rfl (.inl ⟨by rfl, fun W hS => by have c4 := (coL_more HP.out (HX.out W hS).2.1.row).1; go_simp⟩) hH ?_
  change wpAnyH _ _ _ _ _ _ _ (Act.put _ (some 25) _) _
  simp only [Act.put, s0, s1, s2]
  refine wt (i := 14) (v := (.int .i64 ((k : Int) + 1))) rfl (.inl ⟨by rfl, fun W _ => by go_simp⟩) hH ?_
  change wpAnyH _ _ _ _ _ _ _ (Act.put _ (some 26) _) _
  simp only [Act.put, s0, s1, s2]
  refine wt (i := 15) (v := (.bool false)) rfl (.inl ⟨by rfl, fun W _ => by go_simp⟩) hH ?_
  change wpAnyH _ _ _ _ _ _ _ (Act.put _ (some 27) _) _
  simp only [Act.put, s0, s1, s2]
  refine wt (i := 16) (v := (.bool false)) rfl (.inl ⟨by rfl, fun W _ => by go_simp⟩) hH ?_
  change wpAnyH _ _ _ _ _ _ _ (Act.put _ (some 28) _) _
  simp only [Act.put, s0, s1, s2]
  refine wpAnyH_done (by kernel_rfl) ?_ _
  clear hH e1
  have F1 := hide (HX.out _ DV.out)
  go_upto_region 6 with (first | (go_at_call 23; refine (HC.out _ F1.out.1 F1.out.2.2.1).mono ?_; rintro e W2 ⟨rfl, be⟩; have D2 := hide (below_next DV.out be); clear be) | ((with_reducible refine at_list ?_); refine wpList_loadS ABk _ rfl w.heap.size rfl C BZ.out 62 F1.out.2.2.2 (by rfl) ?_))
  have F2 := hide (HX.out _ D2.out)
  have c2 := (RH.out _ F2.out.2.2.2).2
  have CX := hide (CN.out _ F2.out.1)
  clear F1 DV HC
  go_upto_region 9 with (first | (go_at_call 225; refine (HH.out _ CX.out.2).mono ?_; rintro e W3 ⟨rfl, be⟩; have D3 := hide (below_next D2.out be); clear be) | ((with_reducible refine at_list ?_); refine wpLoadT _ rfl ga oa rfl x (by have := CX.out.1; rwa [Nat.zero_mul, Nat.add_zero] at this) (by rfl) ?_))
  clear c2
  go_wp2
  go_ret
  exact ⟨rfl, below_next B1.out D3.out⟩
end
end Go.Proofs.YtcoojkpimbddlaaGreatDoor
namespace Go.Proofs.YtcoojkpimbddlaaGreatDoor
open Go.RowKit
open Go.Deep
open Go.Maps
open Go.MapKept
open Go.ChangeMaps (setBlock modify_eq_set)
open Go.WideElems (findIdx_born findIdx_arr modify_last set_self)
set_option linter.unusedVariables false
set_option linter.unusedSimpArgs false
theorem entryU {P : Program} {k t e : TypeId} (K : Keyed P k) (ht : P.underlying t = some (.map k e)) {z : Value} (hz : ∀ u : World, (zeroValue e).run P u = .ok z u) {w : World} {b : Nat} {es : Array MapEntry} {clock : Nat} (hb : w.heap[b]? = some (.map es clock))
    (hks : ∀ x ∈ es.toList, ∃ l, keyOf P k x.key = some l) (s1 : ∀ x ∈ es.toList, x.born < clock) (s2 : (es.toList.map (·.born)).Nodup) {key : Value} {kl : Lit} (hkey : keyOf P k key = some kl) :
    ∃ (v0 : Value) (st : Nat) (o1 : Obj), (Instr.mapEntry t (.map (some b)) key).run P w = .ok (.tuple #[v0, goInt st]) (setBlock w b o1) ∧ (Instr.lookup t (.map (some b)) key false).run P w = .ok v0 w ∧ (Instr.mapUpdate t (.map (some b)) key v0).run P w = .ok () (setBlock w b o1) ∧
      ∀ (w2 : World) (val : Value), w2.heap[b]? = some o1 → ∃ o, (Instr.entryStore t (.map (some b)) (goInt st) val).run P w2 = .ok () (setBlock w2 b o) ∧ (Instr.mapUpdate t (.map (some b)) key val).run P w = .ok () (setBlock w b o) := by
  rcases K.find w hkey es.toList hks with ⟨h1, h2⟩ | ⟨j, e0, h1, h2, h3⟩
  · refine ⟨z, clock, .map (es.push ⟨key, z, clock⟩) (clock + 1), ?_, ?_, ?_, fun w2 val hw2 => ⟨.map (es.push ⟨key, val, clock⟩) (clock + 1), ?_, ?_⟩⟩
    · simp [Instr.mapEntry, run_underlying ht, MapKept.run_getObj_map hb, K.check w false hkey, h1, hz, MapKept.run_setObj_map _ hb, Result.andThen, setBlock]
    · simp [Instr.lookup, run_underlying ht, MapKept.run_getObj_map hb, K.check w _ hkey, h1, hz, Result.andThen]
    · simp [Instr.mapUpdate, run_underlying ht, MapKept.run_getObj_map hb, K.check w false hkey, h1, MapKept.run_setObj_map _ hb, Result.andThen, setBlock]
    · have hidx : (es.push ⟨key, z, clock⟩).findIdx? (fun e => ((e.born : Nat) : Int) == ((clock : Nat) : Int)) = some es.size := by
        rw [findIdx_arr]
        exact findIdx_born (l := (es.push ⟨key, z, clock⟩).toList) (j := es.size) (e0 := ⟨key, z, clock⟩) (by
          simp only [Array.toList_push, List.map_append, List.map_cons, List.map_nil]
          refine List.nodup_append.2 ⟨s2, by simp, fun a ha c hc e1 => ?_⟩
          simp only [List.mem_singleton] at hc
          obtain ⟨x, hx, rfl⟩ := List.mem_map.1 ha
          have := s1 x hx
          omega) (by simp)
      have hmod : (es.push ⟨key, z, clock⟩).modify es.size (fun e => { e with val := val }) = es.push ⟨key, val, clock⟩ := by
        apply Array.ext'
        rw [Array.toList_modify, Array.toList_push, Array.toList_push, ← Array.length_toList, modify_last]
      simp [Instr.entryStore, MapKept.run_getObj_map hw2, asInt, asIntOf, goInt, hidx, hmod, MapKept.run_setObj_map _ hw2, Result.andThen, setBlock]
    · simp [Instr.mapUpdate, run_underlying ht, MapKept.run_getObj_map hb, K.check w false hkey, h1, MapKept.run_setObj_map _ hb, Result.andThen, setBlock]
  · have hj : es[j]? = some e0 := by simpa using h2
    have hsame : es.modify j (fun e => { e with key := key }) = es := by
      apply Array.ext'
      rw [Array.toList_modify, modify_eq_set _ _ _ _ h2]
      have : ({ e0 with key := key } : MapEntry) = e0 := by rw [← h3]
      rw [this]
      exact set_self _ _ _ h2
    have hsame2 : es.modify j (fun e' => { e' with key := key, val := e0.val }) = es := by
      apply Array.ext'
      rw [Array.toList_modify, modify_eq_set _ _ _ _ h2]
      have : ({ e0 with key := key, val := e0.val } : MapEntry) = e0 := by rw [← h3]
      rw [this]
      exact set_self _ _ _ h2
    refine ⟨e0.val, e0.born, .map es clock, ?_, ?_, ?_, fun w2 val hw2 => ⟨.map (es.modify j (fun e' => { e' with key := key, val := val })) clock, ?_, ?_⟩⟩
    · simp [Instr.mapEntry, run_underlying ht, MapKept.run_getObj_map hb, K.check w false hkey, h1, hj, h3, K.stays w hkey, hsame, MapKept.run_setObj_map _ hb, Result.andThen, setBlock]
    · simp [Instr.lookup, run_underlying ht, MapKept.run_getObj_map hb, K.check w _ hkey, h1, Result.andThen]
    · simp [Instr.mapUpdate, run_underlying ht, MapKept.run_getObj_map hb, K.check w false hkey, h1, hj, h3, K.stays w hkey, hsame2, MapKept.run_setObj_map _ hb, Result.andThen, setBlock]
    · have hidx : es.findIdx? (fun e => ((e.born : Nat) : Int) == ((e0.born : Nat) : Int)) = some j := by
        rw [findIdx_arr]
        exact findIdx_born s2 h2
      have hmod : es.modify j (fun e => { e with val := val }) = es.modify j (fun e' => { e' with key := key, val := val }) := by
        apply Array.ext'
        rw [Array.toList_modify, Array.toList_modify, modify_eq_set _ _ _ _ h2, modify_eq_set _ _ _ _ h2, ← h3]
      simp [Instr.entryStore, MapKept.run_getObj_map hw2, asInt, asIntOf, goInt, hidx, hmod, MapKept.run_setObj_map _ hw2, Result.andThen, setBlock]
    · simp [Instr.mapUpdate, run_underlying ht, MapKept.run_getObj_map hb, K.check w false hkey, h1, hj, h3, K.stays w hkey, MapKept.run_setObj_map _ hb, Result.andThen, setBlock]
theorem OmI.entry {W : World} {b n : Nat} {D : DataW Unit} (h : OmI W b n D) (hn : n < 1000000) (l : List UInt8) (hl : l.length = 32) (k : Int) (hk : (Lit.int .i64 k).wf = true) (hat : D.atKey (.string l) (.lit (.int .i64 0)) = .lit (.int .i64 k)) :
    ∃ (st : Nat) (W1 : World), (Instr.mapEntry 118 (.map (some b)) (.agg (hc l))).run Tryz.prog W = .ok (.tuple #[.int .i64 k, goInt st]) W1 ∧ W.grownBy W1 (some b) ∧ (∀ W', OmI W' b n D → (Instr.lookup 118 (.map (some b)) (.agg (hc l)) false).run Tryz.prog W' = .ok (.int .i64 k) W') ∧
      (∀ W', W'.heap[b]? = W1.heap[b]? → (Instr.lookup 118 (.map (some b)) (.agg (hc l)) false).run Tryz.prog W' = .ok (.int .i64 k) W') ∧
      ∀ (W2 : World) (j : Int), (Lit.int .i64 j).wf = true → W2.heap[b]? = W1.heap[b]? → ∃ W3, (Instr.entryStore 118 (.map (some b)) (goInt st) (.int .i64 j)).run Tryz.prog W2 = .ok () W3 ∧ OmI W3 b (n + 1) (D.put (.string l) (.lit (.int .i64 j))) ∧ W2.grownBy W3 (some b) := by
  have LK : ∀ {W' : World} {n' : Nat} {D' : DataW Unit}, OmI W' b n' D' → D'.atKey (.string l) (.lit (.int .i64 0)) = .lit (.int .i64 k) → (Instr.lookup 118 (.map (some b)) (.agg (hc l)) false).run Tryz.prog W' = .ok (.int .i64 k) W' := by
    intro W' n' D' o ha
    obtain ⟨c, hrun, hc', _⟩ := o.lookup_int lawH14 Tryz.underlying118 Tryz.underlying3 (zeroI14 W') (keyH14 l hl)
    rw [ha] at hc'
    obtain rfl : k = c := by simpa using hc'
    exact hrun
  have hlt := h.lt
  obtain ⟨es, clock, hb, F, hs, hD⟩ := id h
  obtain ⟨v0, st, o1, r1, r2, r3, r4⟩ := entryU lawH14 Tryz.underlying118 zeroI14 hb F.keys F.stamped.1 F.stamped.2.1 (keyH14 l hl)
  have e0 : v0 = .int .i64 k := by
    have := r2.symm.trans (LK h hat)
    simpa using this
  subst e0
  obtain ⟨Wu, hu, ou, gu⟩ := h.store (val := .int .i64 k) (d := .lit (.int .i64 k)) (ps := []) lawH14 Tryz.underlying118 (by unfold maxLen; omega) (keyH14 l hl) (plainElem_int Tryz.underlying3 hk)
  have eu : Wu = setBlock W b o1 := by
    have := hu.symm.trans r3
    simpa using this
  rw [eu] at ou gu
  have hb1 : (setBlock W b o1).heap[b]? = some o1 := by
    simp [setBlock, Array.getElem?_setIfInBounds, hlt]
  refine ⟨st, setBlock W b o1, r1, gu.grown, fun W' o => LK o hat, fun W' e => LK (OmI.of_block ou e) (by rw [atKey_put_same h.isMap (by simp [WideAt.IsKeyLit])]), fun W2 j hj e => ?_⟩
  obtain ⟨o, q1, q2⟩ := r4 W2 (.int .i64 j) (e.trans hb1)
  obtain ⟨Wv, hv, ov, gv⟩ := h.store (val := .int .i64 j) (d := .lit (.int .i64 j)) (ps := []) lawH14 Tryz.underlying118 (by unfold maxLen; omega) (keyH14 l hl) (plainElem_int Tryz.underlying3 hj)
  have ev : Wv = setBlock W b o := by
    have := hv.symm.trans q2
    simpa using this
  rw [ev] at ov
  have hl2 : b < W2.heap.size := lt_heap (e.trans hb1)
  refine ⟨_, q1, OmI.of_block ov (by simp [setBlock, Array.getElem?_setIfInBounds, hlt, hl2]), ⟨rfl, rfl, rfl, by simp [setBlock], fun i _ hi => ?_⟩⟩
  have : b ≠ i := fun c => hi (by rw [c])
  simp [setBlock, Array.getElem?_setIfInBounds, this]
end Go.Proofs.YtcoojkpimbddlaaGreatDoor
namespace Go.Proofs.YtcoojkpimbddlaaGreatDoor
open Go.RowKit
open Go.Deep
open Go.Maps
set_option linter.unusedVariables false
set_option linter.unusedSimpArgs false
section
variable {w w1 : World} {ops : Array Oper} {rest : List Oper} {o : Oper} {a : Act} {K : Act → World → Prop} {Q : Exit → Act → World → Prop} {E0 : Prop}
theorem step_run16 (hgd : o.guard = none) {v : Value} (hr : (execOp a.eval o).run Tryz.prog w = .ok (.value v) w1) (hk : K (a.put o.dst v) w1) : if Region.wanted o (yielded ops a.tmps) = true then Oper.wp Tryz.prog o a w K Q else E0 := by
  have hw : Region.wanted o (yielded ops a.tmps) = true := by simp [Region.wanted, hgd]
  rw [if_pos hw]
  unfold Oper.wp
  rw [hr]
  exact hk
theorem step_skip16 (hgd : o.guard = none) (hr : (execOp a.eval o).run Tryz.prog w = .ok .skip w1) (hk : K (a.put o.dst undef) w1) : if Region.wanted o (yielded ops a.tmps) = true then Oper.wp Tryz.prog o a w K Q else E0 := by
  have hw : Region.wanted o (yielded ops a.tmps) = true := by simp [Region.wanted, hgd]
  rw [if_pos hw]
  unfold Oper.wp
  rw [hr]
  exact hk
end
theorem ex_mapU16 {a : Act} {o : Oper} {w w1 : World} (t : TypeId) (m x y : Operand) (ho : o.op = .mapUpdate t m x y) (vm vx vy : Value) (hm : a.eval m = vm) (hx : a.eval x = vx) (hy : a.eval y = vy) (hr : (Instr.mapUpdate t vm vx vy).run Tryz.prog w = .ok () w1) : (execOp a.eval o).run Tryz.prog w = .ok .skip w1 := by
  unfold execOp
  simp only [ho, hm, hx, hy, Sem.run_bind, hr, Result.andThen_ok, Sem.run_pure]
theorem ex_entry16 {a : Act} {o : Oper} {w w1 : World} (t : TypeId) (m x : Operand) (ho : o.op = .mapEntry t m x) (vm vx r : Value) (hm : a.eval m = vm) (hx : a.eval x = vx) (hr : (Instr.mapEntry t vm vx).run Tryz.prog w = .ok r w1) : (execOp a.eval o).run Tryz.prog w = .ok (.value r) w1 := by
  unfold execOp
  simp only [ho, hm, hx, Sem.run_bind, hr, Result.andThen_ok, Sem.run_pure]
theorem ex_look16 {a : Act} {o : Oper} {w : World} (t : TypeId) (m x : Operand) (ok : Bool) (ho : o.op = .lookup t m x ok) (vm vx r : Value) (hm : a.eval m = vm) (hx : a.eval x = vx) (hr : (Instr.lookup t vm vx ok).run Tryz.prog w = .ok r w) : (execOp a.eval o).run Tryz.prog w = .ok (.value r) w := by
  unfold execOp
  simp only [ho, hm, hx, Sem.run_bind, hr, Result.andThen_ok, Sem.run_pure]
theorem ex_estore16 {a : Act} {o : Oper} {w w1 : World} (t : TypeId) (m s x : Operand) (ho : o.op = .entryStore t m s x) (vm vs vx : Value) (hm : a.eval m = vm) (hs : a.eval s = vs) (hx : a.eval x = vx) (hr : (Instr.entryStore t vm vs vx).run Tryz.prog w = .ok () w1) : (execOp a.eval o).run Tryz.prog w = .ok .skip w1 := by
  unfold execOp
  simp only [ho, hm, hs, hx, Sem.run_bind, hr, Result.andThen_ok, Sem.run_pure]
section
variable {S : World → Prop} {ops : Array Oper} {o : Oper} {a : Act}
theorem yl_look16 (hw : Region.wanted o (yielded ops a.tmps) = true) (t : TypeId) (m x : Operand) (ok : Bool) (ho : o.op = .lookup t m x ok) (vm vx : Value) (hm : a.eval m = vm) (hx : a.eval x = vx) (r : Value) (hr : ∀ W, S W → (Instr.lookup t vm vx ok).run Tryz.prog W = .ok r W) : YieldsIf Tryz.prog ops S o r a :=
  .inl ⟨hw, fun W hW => by
    unfold execOp
    simp only [ho, hm, hx, hr W hW, Sem.run_bind, Result.andThen_ok, Sem.run_pure]⟩
end
theorem ACn : Arr 189 4 (⟨0, ⟨#[]⟩, 0, false⟩ : Cn).cells.toArray := ⟨.inr ⟨_, Tryz.underlying189⟩, by kernel_rfl, fun w => by kernel_rfl, fun w => by kernel_rfl, rfl⟩
section
variable {B W W' : World} {gc bm bc n m n' : Nat} {tip : List UInt8} {h : Int} {D E D' : DataW Unit}
theorem Cst.setM (c : Cst B W gc bm bc n m tip h D E) (o : W'.ownsMap Tryz.prog 160 coE bm n' D') (g : W.grownBy W' (some bm)) : Cst B W' gc bm bc n' m tip h D' E :=
  ⟨(g.block _ (lt_heap c.row) (by intro e; exact c.n1 (Option.some.inj e))).trans c.row, o, c.ct.of_block (g.block _ c.ct.lt (by intro e; exact c.n3 (Option.some.inj e).symm)), below_grownP c.bel g c.b1, c.bg, c.b1, c.b2, c.n1, c.n2, c.n3, c.ht⟩
theorem Cst.setC (c : Cst B W gc bm bc n m tip h D E) (o : OmI W' bc n' D') (g : W.grownBy W' (some bc)) : Cst B W' gc bm bc n n' tip h D D' :=
  ⟨(g.block _ (lt_heap c.row) (by intro e; exact c.n2 (Option.some.inj e))).trans c.row, own_block c.mp (g.block _ c.mp.lt (by intro e; exact c.n3 (Option.some.inj e))), o, below_grownP c.bel g c.b2, c.bg, c.b1, c.b2, c.n1, c.n2, c.n3, c.ht⟩
end
section
set_option maxRecDepth 10000
set_option maxHeartbeats 4000000
theorem put_any {B w : World} {gc bm bc n m : Nat} {tip : List UInt8} {h : Int} {D E : DataW Unit} (c : Cst B w gc bm bc n m tip h D E) (hn : n < 1000000) (hm : m < 1000000) (p : Tp) (x : Cn) (k : Int) (hk : 0 ≤ k) (hk2 : k < 1000000) (hat : E.atKey (.string p.hash) (.lit (.int .i64 0)) = .lit (.int .i64 k)) : Calls Tryz.prog 97 #[.pointer (some ⟨gc, 0, none⟩), .agg p.cells.toArray, .agg x.cells.toArray] w fun e w' => e = .returned (.tuple #[]) ∧ Cst B w' gc bm bc (n + 1) (m + 1) tip h (D.put (.string p.keyB) x.dat) (E.put (.string p.hash) (.lit (.int .i64 (k + 1)))) ∧ Frt (fun g => g = bm ∨ g = bc) w w' := by
  have r1 := heap_alloc_last w (.cells p.cells.toArray 160)
  have b1 := (Below.refl w.heap.size w).alloc (Nat.le_refl _) (.cells p.cells.toArray 160)
  have s1 : (w.alloc (.cells p.cells.toArray 160)).heap.size = w.heap.size + 1 := by simp
  have b2 := b1.alloc (by rw [s1]; omega) (.cells x.cells.toArray 189)
  have R2 := hide (heap_alloc_last (w.alloc (.cells p.cells.toArray 160)) (.cells x.cells.toArray 189))
  have R1 := hide ((Below.heap_alloc _ (.cells x.cells.toArray 189) _ (lt_heap r1)).trans r1)
  have C2 := hide (c.next b2)
  have FR := hide (Frt.of_below (S := fun g => g = bm ∨ g = bc) b2)
  rw [s1] at R2
  have LT2 : Hid (gc < w.heap.size ∧ bm < w.heap.size ∧ bc < w.heap.size) := ⟨lt_heap c.row, c.mp.lt, c.ct.lt⟩
  have HT := hide c.ht
  clear b1 b2 r1 c
  have PZ := hide (And.intro p.size p.all)
  have XZ : Hid (x.cells.toArray.size = 4) := rfl
  go_enter Tryz.func97, Tryz.ntmps97
  go_upto_region 1 with ((with_reducible refine at_list ?_); refine wpList_boxA rfl _ rfl _ rfl ?_)
  simp only [Act.put, List.setIfInBounds_toArray, List.set_cons_zero, List.set_cons_succ]
  rw [s1]
  clear s1
  generalize (w.alloc (.cells p.cells.toArray 160)).alloc (.cells x.cells.toArray 189) = W0 at *
  have C3 := hide (C2.out.next (Below.refl W0.heap.size W0).drew)
  have FR3 := hide (FR.out.next (Below.refl W0.heap.size W0).drew)
  have R3 := hide (show W0.drew.heap[w.heap.size]? = _ from R1.out)
  have R4 := hide (show W0.drew.heap[w.heap.size + 1]? = _ from R2.out)
  refine wp_region_held_drew (S := fun W => W.cell? ⟨gc, 33, none⟩ = some (.map (some bm)) ∧ W.heap[w.heap.size]? = some (.cells p.cells.toArray 160 (0, 0)) ∧ W.heap[w.heap.size + 1]? = some (.cells x.cells.toArray 189 (0, 0))) (by kernel_rfl) ⟨(coL_more HT.out C3.out.row).2.1, R3.out, R4.out⟩ (fun hH => ?_)
  generalize W0.drew = V1 at *
  refine wt (i := 0) (v := (.pointer (some ⟨gc, 0, none⟩))) rfl (yl_move (by rfl) _ (by rfl) _ (by rfl)) hH ?_
  change wpAnyH _ _ _ _ _ _ _ (Act.put _ (some 6) _) _
  simp only [Act.put, List.setIfInBounds_toArray, List.set_cons_zero, List.set_cons_succ]
  refine wt (i := 1) (v := (.pointer (some ⟨gc, 0, none⟩))) rfl (.inl ⟨by rfl, fun W _ => by go_simp⟩) hH ?_
  change wpAnyH _ _ _ _ _ _ _ (Act.put _ (some 7) _) _
  simp only [Act.put, List.setIfInBounds_toArray, List.set_cons_zero, List.set_cons_succ]
  refine wt (i := 2) (v := (.pointer (some ⟨gc, 33, none⟩))) rfl (.inl ⟨by rfl, fun W _ => by go_simp⟩) hH ?_
  change wpAnyH _ _ _ _ _ _ _ (Act.put _ (some 8) _) _
  simp only [Act.put, List.setIfInBounds_toArray, List.set_cons_zero, List.set_cons_succ]
  refine wt (i := 3) (v := (.map (some bm))) rfl (.inl ⟨by rfl, fun W hS => by have c4 := hS.1; go_simp⟩) hH ?_
  change wpAnyH _ _ _ _ _ _ _ (Act.put _ (some 9) _) _
  simp only [Act.put, List.setIfInBounds_toArray, List.set_cons_zero, List.set_cons_succ]
  refine wt (i := 4) (v := (.agg p.cells.toArray)) rfl (yl_load (by rfl) _ (by rfl) _ p.cells.toArray (by rfl) (fun W hS => ld_row APt PZ.out.1 hS.2.1)) hH ?_
  change wpAnyH _ _ _ _ _ _ _ (Act.put _ (some 10) _) _
  simp only [Act.put, List.setIfInBounds_toArray, List.set_cons_zero, List.set_cons_succ]
  refine wt (i := 5) (v := (.agg x.cells.toArray)) rfl (yl_load (by rfl) _ (by rfl) _ x.cells.toArray (by rfl) (fun W hS => ld_row ACn XZ.out hS.2.2)) hH ?_
  change wpAnyH _ _ _ _ _ _ _ (Act.put _ (some 11) _) _
  simp only [Act.put, List.setIfInBounds_toArray, List.set_cons_zero, List.set_cons_succ]
  obtain ⟨V2, hrun, om, gr⟩ := C3.out.mp.store (val := .agg x.cells.toArray) (d := x.dat) (ps := []) lawP Tryz.underlying176 (by unfold maxLen; omega) (keyP p) (coE_mk x)
  have C4 := hide (C3.out.setM om gr.grown)
  have FR4 := hide (FR3.out.trans' (Frt.of_grown gr.grown (by intro g e; cases e; exact .inl rfl)))
  have R5 := hide ((gr.grown.block _ (lt_heap R3.out) (by intro e; cases e; have := LT2.out; omega)).trans R3.out)
  have R6 := hide ((gr.grown.block _ (lt_heap R4.out) (by intro e; cases e; have := LT2.out; omega)).trans R4.out)
  refine wpAnyH_ready (rs := [6]) (by kernel_rfl) (by simp) (AllReadyH.cons rfl (fun K1 hK1 => ?_) AllReadyH.nil)
  refine step_skip16 (by rfl) (ex_mapU16 _ _ _ _ (by rfl) _ _ _ (by rfl) (by rfl) (by rfl) hrun) ?_
  refine hK1.out _ _ ⟨(coL_more HT.out C4.out.row).2.1, R5.out, R6.out⟩ (fun hH => ?_)
  clear hK1 hrun om gr
  change wpAnyH _ _ _ _ _ _ _ (Act.put _ none _) _
  simp only [Act.put]
  refine wpAnyH_done (by kernel_rfl) ?_ _
  clear hH C2 C3 R1 R2 R3 R4
  go_upto_region 2 with fail
  have C5 := hide (C4.out.next (Below.refl V2.heap.size V2).drew)
  have FR5 := hide (FR4.out.next (Below.refl V2.heap.size V2).drew)
  have R7 := hide (show V2.drew.heap[w.heap.size]? = _ from R5.out)
  obtain ⟨st, V4, q1, q2, q3, q4, q5⟩ := C5.out.ct.entry hm p.hash p.hh k (by simp [Lit.wf, IntKind.min, IntKind.max, IntKind.signed, IntKind.bits]; omega) hat
  have e1 : IntKind.i64.wrap (k + 1) = k + 1 := wrapI _ (by omega) (by omega)
  refine wp_region_held_drew (S := fun W => W.cell? ⟨gc, 34, none⟩ = some (.map (some bc)) ∧ W.heap[w.heap.size]? = some (.cells p.cells.toArray 160 (0, 0))) (by kernel_rfl) ⟨(coL_more HT.out C5.out.row).2.2, R7.out⟩ (fun hH => ?_)
  generalize V2.drew = V3 at *
  have Q3 := hide (q3 _ C5.out.ct)
  clear C4 R5 R6 q3
  have PH : Hid (∀ W : World, W.heap[w.heap.size]? = some (.cells p.cells.toArray 160 (0, 0)) → W.rangeAt w.heap.size 0 (cellsL p.hash)) := fun W e j v hv => rowAt _ e j v (by rw [Tp.cells, List.getElem?_append_left (List.getElem?_eq_some_iff.1 hv).1]; exact hv)
  refine wt (i := 0) (v := (.pointer (some ⟨gc, 0, none⟩))) rfl (yl_move (by rfl) _ (by rfl) _ (by rfl)) hH ?_
  change wpAnyH _ _ _ _ _ _ _ (Act.put _ (some 12) _) _
  simp only [Act.put, List.setIfInBounds_toArray, List.set_cons_zero, List.set_cons_succ]
  refine wt (i := 1) (v := (.pointer (some ⟨gc, 0, none⟩))) rfl (.inl ⟨by rfl, fun W _ => by go_simp⟩) hH ?_
  change wpAnyH _ _ _ _ _ _ _ (Act.put _ (some 13) _) _
  simp only [Act.put, List.setIfInBounds_toArray, List.set_cons_zero, List.set_cons_succ]
  refine wt (i := 2) (v := (.pointer (some ⟨gc, 34, none⟩))) rfl (.inl ⟨by rfl, fun W _ => by go_simp⟩) hH ?_
  change wpAnyH _ _ _ _ _ _ _ (Act.put _ (some 14) _) _
  simp only [Act.put, List.setIfInBounds_toArray, List.set_cons_zero, List.set_cons_succ]
  refine wt (i := 3) (v := (.map (some bc))) rfl (.inl ⟨by rfl, fun W hS => by have c4 := hS.1; go_simp⟩) hH ?_
  change wpAnyH _ _ _ _ _ _ _ (Act.put _ (some 15) _) _
  simp only [Act.put, List.setIfInBounds_toArray, List.set_cons_zero, List.set_cons_succ]
  refine wt (i := 4) (v := (.pointer (some ⟨w.heap.size, 0, none⟩))) rfl (.inl ⟨by rfl, fun W _ => by go_simp⟩) hH ?_
  change wpAnyH _ _ _ _ _ _ _ (Act.put _ (some 16) _) _
  simp only [Act.put, List.setIfInBounds_toArray, List.set_cons_zero, List.set_cons_succ]
  refine wt (i := 5) (v := (.agg (hc p.hash))) rfl (yl_load (by rfl) _ (by rfl) _ (hc p.hash) (by rfl) (fun W hS => ld_hash p.hash p.hh (PH.out W hS.2))) hH ?_
  change wpAnyH _ _ _ _ _ _ _ (Act.put _ (some 17) _) _
  simp only [Act.put, List.setIfInBounds_toArray, List.set_cons_zero, List.set_cons_succ]
  have RC6 := hide ((q2.block _ (lt_heap C5.out.row) (by intro e; cases e; exact C5.out.n2 rfl)).trans C5.out.row)
  have S4 := hide (And.intro (coL_more HT.out RC6.out).2.2 ((q2.block _ (lt_heap R7.out) (by intro e; cases e; have := LT2.out; omega)).trans R7.out))
  have Q4 := hide (q4 _ rfl)
  obtain ⟨V5, t1, t2, t3⟩ := q5 V4 (k + 1) (by simp [Lit.wf, IntKind.min, IntKind.max, IntKind.signed, IntKind.bits]; omega) rfl
  have g35 : V3.grownBy V5 (some bc) := q2.andThen t3 (fun j hj => .inr hj)
  have C7 := hide (C5.out.setC t2 g35)
  have FR7 := hide (FR5.out.trans' (Frt.of_grown g35 (by intro g e; cases e; exact .inr rfl)))
  have S5 := hide (And.intro (coL_more HT.out C7.out.row).2.2 ((g35.block _ (lt_heap R7.out) (by intro e; cases e; have := LT2.out; omega)).trans R7.out))
  have S3 := hide hH
  clear q4 q5 t2 t3 g35 q2 RC6 R7 C5
  refine wpAnyH_ready (rs := [6, 8]) (by kernel_rfl) (by simp) (AllReadyH.cons rfl (fun K1 hK1 => ?_) (AllReadyH.cons rfl (fun K1 hK1 => ?_) AllReadyH.nil))
  · refine step_run16 (by rfl) (ex_look16 _ _ _ _ (by rfl) _ _ _ (by rfl) (by rfl) Q3.out) ?_
    refine hK1.out _ _ S3.out (fun hH => ?_)
    clear hK1
    change wpAnyH _ _ _ _ _ _ _ (Act.put _ (some 18) _) _
    simp only [Act.put, List.setIfInBounds_toArray, List.set_cons_zero, List.set_cons_succ]
    refine wt (i := 7) (v := (.int .i64 (k + 1))) rfl (.inl ⟨by rfl, fun W _ => by go_simp⟩) hH ?_
    change wpAnyH _ _ _ _ _ _ _ (Act.put _ (some 19) _) _
    simp only [Act.put, List.setIfInBounds_toArray, List.set_cons_zero, List.set_cons_succ]
    refine wpAnyH_ready (rs := [8]) (by kernel_rfl) (by simp) (AllReadyH.cons rfl (fun K1 hK1 => ?_) AllReadyH.nil)
    refine step_run16 (by rfl) (ex_entry16 _ _ _ (by rfl) _ _ _ (by rfl) (by rfl) q1) ?_
    refine hK1.out _ _ S4.out (fun hH => ?_)
    clear hK1
    change wpAnyH _ _ _ _ _ _ _ (Act.put _ (some 20) _) _
    simp only [Act.put, List.setIfInBounds_toArray, List.set_cons_zero, List.set_cons_succ]
    refine wt (i := 9) (v := (.int .i64 (st : Int))) rfl (.inl ⟨by rfl, fun W _ => by go_simp⟩) hH ?_
    change wpAnyH _ _ _ _ _ _ _ (Act.put _ (some 21) _) _
    simp only [Act.put, List.setIfInBounds_toArray, List.set_cons_zero, List.set_cons_succ]
    refine wpAnyH_ready (rs := [10]) (by kernel_rfl) (by simp) (AllReadyH.cons rfl (fun K1 hK1 => ?_) AllReadyH.nil)
    refine step_skip16 (by rfl) (ex_estore16 _ _ _ _ (by rfl) _ _ _ (by rfl) (by rfl) (by rfl) t1) ?_
    refine hK1.out _ _ S5.out (fun hH => ?_)
    clear hK1
    change wpAnyH _ _ _ _ _ _ _ (Act.put _ none _) _
    simp only [Act.put]
    refine wpAnyH_done (by kernel_rfl) ?_ _
    go_wp2
    exact bodyPost_end (results_none (by kernel_rfl) _ _ _) rfl ⟨rfl, C7.out, FR7.out⟩
  · refine step_run16 (by rfl) (ex_entry16 _ _ _ (by rfl) _ _ _ (by rfl) (by rfl) q1) ?_
    refine hK1.out _ _ S4.out (fun hH => ?_)
    clear hK1
    change wpAnyH _ _ _ _ _ _ _ (Act.put _ (some 20) _) _
    simp only [Act.put, List.setIfInBounds_toArray, List.set_cons_zero, List.set_cons_succ]
    refine wt (i := 9) (v := (.int .i64 (st : Int))) rfl (.inl ⟨by rfl, fun W _ => by go_simp⟩) hH ?_
    change wpAnyH _ _ _ _ _ _ _ (Act.put _ (some 21) _) _
    simp only [Act.put, List.setIfInBounds_toArray, List.set_cons_zero, List.set_cons_succ]
    refine wpAnyH_ready (rs := [6]) (by kernel_rfl) (by simp) (AllReadyH.cons rfl (fun K1 hK1 => ?_) AllReadyH.nil)
    refine step_run16 (by rfl) (ex_look16 _ _ _ _ (by rfl) _ _ _ (by rfl) (by rfl) Q4.out) ?_
    refine hK1.out _ _ S4.out (fun hH => ?_)
    clear hK1
    change wpAnyH _ _ _ _ _ _ _ (Act.put _ (some 18) _) _
    simp only [Act.put, List.setIfInBounds_toArray, List.set_cons_zero, List.set_cons_succ]
    refine wt (i := 7) (v := (.int .i64 (k + 1))) rfl (.inl ⟨by rfl, fun W _ => by go_simp⟩) hH ?_
    change wpAnyH _ _ _ _ _ _ _ (Act.put _ (some 19) _) _
    simp only [Act.put, List.setIfInBounds_toArray, List.set_cons_zero, List.set_cons_succ]
    refine wpAnyH_ready (rs := [10]) (by kernel_rfl) (by simp) (AllReadyH.cons rfl (fun K1 hK1 => ?_) AllReadyH.nil)
    refine step_skip16 (by rfl) (ex_estore16 _ _ _ _ (by rfl) _ _ _ (by rfl) (by rfl) (by rfl) t1) ?_
    refine hK1.out _ _ S5.out (fun hH => ?_)
    clear hK1
    change wpAnyH _ _ _ _ _ _ _ (Act.put _ none _) _
    simp only [Act.put]
    refine wpAnyH_done (by kernel_rfl) ?_ _
    go_wp2
    exact bodyPost_end (results_none (by kernel_rfl) _ _ _) rfl ⟨rfl, C7.out, FR7.out⟩
end
end Go.Proofs.YtcoojkpimbddlaaGreatDoor
