/- The document's sums: the contract of its Sum. The sum of three letters, and awake. Regions with calls that make memory; arrays held against each other. -/
import Derived.Test.YtppooipamibhoaaGreatDoorX04
import Derived.Test.YtppooipamibhoaaGreatDoorX05
namespace Go.Proofs.YtppooipamibhoaaGreatDoor
open Go.RowKit
open Go.Deep
theorem pad_whole (n : Nat) : (n + (9 + padZ n)) % 64 = 0 := by unfold padZ; omega
theorem by8_get (x : ByteArray) (k : Nat) (h : k < x.size) : (by8 x.data.toList k : Int) = (x[k].toNat : Int) := by
  unfold by8
  rw [List.getD_eq_getElem?_getD, List.getElem?_eq_getElem (by simpa using h)]
  rfl
/-- A block while it is filled: j bytes stand. -/
def bkF (t : List UInt8) (o n j : Nat) : Value := .int .u8 (if j < n then (by8 t (o + j) : Int) else 0)
theorem bkF_step (t : List UInt8) (o n j : Nat) : (if j = n then Value.int .u8 (by8 t (o + n) : Int) else bkF t o n j) = bkF t o (n + 1) j := by
  unfold bkF
  by_cases e : j = n
  · subst e
    rw [if_pos rfl, if_pos (by omega)]
  · rw [if_neg e]
    by_cases e2 : j < n
    · rw [if_pos e2, if_pos (by omega)]
    · rw [if_neg e2, if_neg (by omega)]
theorem bk_len (t : List UInt8) (k : Nat) (h : 64 * k + 64 ≤ t.length) : ((t.drop (64 * k)).take 64).length = 64 := by
  rw [List.length_take, List.length_drop]; omega
theorem bk_at (t : List UInt8) (k j : Nat) (hj : j < 64) (h : 64 * k + 64 ≤ t.length) : (hc ((t.drop (64 * k)).take 64))[j]? = some (bkF t (64 * k) 64 j) := by
  rw [hc_at _ _ (by rw [bk_len t k h]; exact hj)]
  unfold bkF by8
  rw [if_pos hj]
  simp only [List.getD_eq_getElem?_getD, List.getElem?_take, hj, List.getElem?_drop]
  rfl
section
set_option maxRecDepth 10000
set_option maxHeartbeats 1000000
theorem rsum_any (s : ByteArray) (hs : s.size < 2305843009213693000) (w : World) : Calls Tryz.prog 210 #[.string s] w fun e w' => e = .returned (.agg (hc (digest s.data.toList))) ∧ Below w.heap.size w w' := by
  have hpad := hide fun W => rpad_any s.size (by omega) W
  have hpl : (⟨(padL s.size).toArray⟩ : ByteArray).size = 9 + padZ s.size := by
    show (padL s.size).toArray.size = _
    rw [List.size_toArray, padL_len]
  have hzl := padZ_lt s.size
  have hsz : (s ++ (⟨(padL s.size).toArray⟩ : ByteArray)).size = s.size + (9 + padZ s.size) := by rw [ByteArray.size_append, hpl]
  have hX : (s ++ (⟨(padL s.size).toArray⟩ : ByteArray)).data.toList = s.data.toList ++ padL s.data.toList.length := by simp
  have hm := pad_whole s.size
  have hfin : stN (s.data.toList ++ padL s.data.toList.length) ((s.data.toList ++ padL s.data.toList.length).length / 64) = fin s.data.toList := rfl
  rw [← hX] at hfin
  have hdl := digest_len s.data.toList
  have hD : (fin s.data.toList).bytes = digest s.data.toList := rfl
  have HF := hide fun W => rfirst_any W
  have hw : IntKind.u64.wrap (s.size : Int) = (s.size : Int) := wrapu _ (by omega) (by omega)
  clear hX
  generalize fin s.data.toList = ff at *
  rw [← hD] at hdl ⊢
  clear hD
  have HB := hide fun W => rbytes_any ff W
  generalize ff.bytes = D at *
  generalize (⟨(padL s.size).toArray⟩ : ByteArray) = P at *
  go_enter Tryz.func210, Tryz.ntmps210
  go_wp2_with (first | refine wpList_allocA A24 rfl rfl ?_ | (go_at_call 282; refine (hpad.out _).mono ?_; rintro e w1 ⟨rfl, b1⟩; obtain ⟨n1, B1, hlt⟩ := sb_mid b1 (Nat.le_refl _); clear b1 hlt) | (go_at_call 283; refine (HF.out _).mono ?_; rintro e w2 ⟨rfl, b2⟩; obtain ⟨n2, B2⟩ := sb_last n1.out B1.out b2; clear b2) | refine wpList_allocA A30 rfl rfl ?_ | refine wpList_store_newA A30 rfl _ _ rfl _ rfl (uc first.list) rfl (uc_one _) rfl rfl ?_)
  have n3 := hide ((Below.heap_alloc _ (.cells (uc first.list) 359) _ (lt_heap n2.out)).trans n2.out)
  have g3 := hide (heap_alloc_last w2 (.cells (uc first.list) 359))
  have B3 := hide (B2.out.alloc B2.out.size (.cells (uc first.list) 359))
  have hg : w.heap.size < w2.heap.size := lt_heap n2.out
  clear n1 B1 n2 B2 hpad HF
  generalize w2.alloc (.cells (uc first.list) 359) = W3 at *
  generalize w2.heap.size = g at *
  generalize hXX : s ++ P = X at *
  have hX2 : X.size % 64 = 0 := by rw [hsz]; exact hm
  have hX3 : X.size < 2305843009213694000 := by omega
  have hXl : X.data.toList.length = X.size := by simp
  have HFF := hide hfin
  clear hsz hm hpl hXX hfin
  go_loopw [4, 5, 6] (fun c _ _ wr => ∃ k : Nat, 64 * k ≤ X.size ∧ c = .int .i64 (64 * (k : Int)) ∧ Hid (wr.heap[w.heap.size]? = some (.cells (hc zeros) 45 (0, 0))) ∧ Hid (wr.heap[g]? = some (.cells (uc (stN X.data.toList k).list) 359 (0, 0))) ∧ Hid (Below w.heap.size w wr)) (fun c _ _ _ => (X.size - intOf c).toNat)
  case atStart => exact ⟨0, by omega, rfl, n3, g3, B3⟩
  case round =>
    clear n3 g3 B3
    obtain ⟨k, hk, rfl, r0, r1, bb⟩ := hrel
    by_cases hlt : 64 * k < X.size
    · have hlt' : 64 * (k : Int) < X.size := by omega
      go_wp2_with (first | refine wpList_buildA A35 rfl rfl ?_ | refine wpList_allocA A35 rfl rfl ?_ | refine wpList_store_newA A35 rfl _ _ rfl _ rfl (hc zeros64) (by rw [hc_size, zeros64_len]) (hc_one _) rfl rfl ?_)
      have q0 := hide ((Below.heap_alloc _ (.cells (hc zeros64) 362) _ (lt_heap r0.out)).trans r0.out)
      have q1 := hide ((Below.heap_alloc _ (.cells (hc zeros64) 362) _ (lt_heap r1.out)).trans r1.out)
      have qb := hide (bb.out.alloc bb.out.size (.cells (hc zeros64) 362))
      have q2 : Hid ((wr.alloc (.cells (hc zeros64) 362)).rowIs wr.heap.size 362 64 (bkF X.data.toList (64 * k) 0)) := row_of (by rw [hc_size, zeros64_len]) (heap_alloc_last _ _) (fun i hi => by
        rw [hc_at _ _ (by rw [zeros64_len]; exact hi), by8, zeros64, List.getD_eq_getElem?_getD, List.getElem?_replicate, if_pos hi]
        simp [bkF])
      have g1l : g < wr.heap.size := lt_heap r1.out
      have g0l : w.heap.size < wr.heap.size := lt_heap r0.out
      clear r0 r1 bb
      generalize wr.alloc (.cells (hc zeros64) 362) = W4 at *
      generalize wr.heap.size = gb at *
      go_loopw [6] (fun c wx => ∃ j : Nat, j ≤ 64 ∧ c = .int .i64 j ∧ Hid (wx.heap[w.heap.size]? = some (.cells (hc zeros) 45 (0, 0))) ∧ Hid (wx.heap[g]? = some (.cells (uc (stN X.data.toList k).list) 359 (0, 0))) ∧ Hid (wx.rowIs gb 362 64 (bkF X.data.toList (64 * k) j)) ∧ Hid (Below w.heap.size w wx)) (fun c _ => (64 - intOf c).toNat)
      case atStart => exact ⟨0, by omega, rfl, q0, q1, q2, qb⟩
      case round =>
        clear q0 q1 q2 qb
        obtain ⟨j, hj, rfl, r0, r1, r2, bb⟩ := hrel
        by_cases hj64 : j < 64
        · have c2 := r2.out.cell hj64
          have f2 := r2.out.frozen j
          have e1 : (64 * (k : Int) + j).toNat = 64 * k + j := by omega
          have t0 : (0 : Int) ≤ 64 * k + j := by omega
          have t1 : 64 * (k : Int) + j < X.size := by omega
          have t2 : (0 : Int) ≤ j := by omega
          have t3 : (j : Int) < 64 := by omega
          have hbg := by8_get X (64 * k + j) (by omega)
          have HBG := hide hbg
          clear hbg
          go_wp2
          refine ⟨⟨j + 1, by omega, by go_num, hide ((blk_setCell_other _ _ _ _ (by simp; omega)).trans r0.out), hide ((blk_setCell_other _ _ _ _ (by simp; omega)).trans r1.out), hide ((r2.out.set _ _).congr (fun i hi => ?_)), hide (bb.out.setCell (by simp; omega) _)⟩, by simp [intOf]; omega⟩
          rw [← HBG.out]
          exact bkF_step X.data.toList (64 * k) j i
        · have hje : j = 64 := by omega
          subst hje
          have hbl := bk_len X.data.toList k (by omega)
          have H2 : Hid (wr.heap[gb]? = some (.cells (hc ((X.data.toList.drop (64 * k)).take 64)) 362 (0, 0))) := of_row (by rw [hc_size, hbl]) r2.out (fun i hi => bk_at X.data.toList k i hi (by omega))
          have HST := hide fun W => rstep_any (stN X.data.toList k) ((X.data.toList.drop (64 * k)).take 64) hbl W
          rw [show step (stN X.data.toList k) ((X.data.toList.drop (64 * k)).take 64) = stN X.data.toList (k + 1) from rfl] at HST
          generalize hB : (X.data.toList.drop (64 * k)).take 64 = Bk at *
          generalize hS1 : stN X.data.toList k = S1 at *
          generalize hS2 : stN X.data.toList (k + 1) = S2 at *
          have HS2 := hide hS2
          clear hB hS1 hS2
          go_wp2_with (first | refine wpList_loadA A30 rfl _ rfl _ rfl (uc S1.list) rfl 359 r1.out ?_ | refine wpList_loadA A35 rfl _ rfl _ rfl (hc Bk) (by rw [hc_size, hbl]) 362 H2.out ?_ | (go_at_call 284; refine (HST.out _).mono ?_; rintro e w5 ⟨rfl, b5⟩; have p0 := hide ((b5.block _ (lt_heap r0.out)).trans r0.out); have p1 := hide ((b5.block _ (lt_heap r1.out)).trans r1.out); have pb := hide (bb.out.trans (b5.mono bb.out.size)); clear b5) | refine wpList_storeA A30 rfl _ _ rfl _ (uc S2.list) rfl (uc_one _) rfl rfl (uc S1.list) rfl 359 p1.out ?_)
          exact ⟨⟨k + 1, by omega, by congr 1, hide ((setRow_other _ _ _ _ (by omega)).trans p0.out), hide (by rw [HS2.out]; exact setRow_heap _ _ _ _ _ _ p1.out), hide (below_setRow pb.out (by omega) _)⟩, by simp [intOf]; omega⟩
    · have hke : X.data.toList.length / 64 = k := by omega
      have hf := HFF.out
      rw [hke] at hf
      rw [hf] at r1
      have hlt' : ¬ 64 * (k : Int) < X.size := by omega
      clear hf
      go_wp2_with (first | refine wpList_loadA A30 rfl _ rfl _ rfl (uc ff.list) rfl 359 r1.out ?_ | (go_at_call 285; refine (HB.out _).mono ?_; rintro e w5 ⟨rfl, b5⟩; have p0 := hide ((b5.block _ (lt_heap r0.out)).trans r0.out); have pb := hide (bb.out.trans (b5.mono bb.out.size)); clear b5) | refine wpList_storeA A24 rfl _ _ rfl _ (hc D) (by rw [hc_size, hdl]) (hc_one _) rfl rfl (hc zeros) (by rw [hc_size, zeros_len]) 45 p0.out ?_)
      exact bodyPost_ret (v := .agg (hc D)) (resA A24 Tryz.results210 _ _ w.heap.size 45 _ (by rw [hc_size, hdl]) rfl (setRow_heap _ _ _ _ _ _ p0.out)) rfl ⟨rfl, below_setRow pb.out (Nat.le_refl _) _⟩
end
end Go.Proofs.YtppooipamibhoaaGreatDoor
namespace Go.Proofs.YtppooipamibhoaaGreatDoor
open Go.RowKit
open Go.Deep
theorem abc_ends : sb (fin [97, 98, 99]) 0 = 186 ∧ sb (fin [97, 98, 99]) 31 = 173 := by
  decide +kernel
theorem idx31 (s : St) (i : Nat) (h : i < 8) (w : World) : (Instr.index 360 (.agg (uc s.list)) (.int .i64 (i : Int))).run Tryz.prog w = .ok (.int .u32 ((s.at i).toNat : Int)) w := by
  obtain ⟨a, b, c, d, e, f, g, k⟩ := s
  rcases i with _ | _ | _ | _ | _ | _ | _ | _ | i
  all_goals first | omega | kernel_rfl
section
set_option maxRecDepth 10000
set_option maxHeartbeats 1000000
end
end Go.Proofs.YtppooipamibhoaaGreatDoor
namespace Go.Proofs.YtppooipamibhoaaGreatDoor
open Go.RowKit
open Go.Deep
theorem wp_region_class_lit {I : Type} {F : I → World} {id : Nat} {Q : Exit → Act → World → Prop} {a : Act} {w : World} {l : List Oper} (hm : Tryz.prog.follows .mixedOrders = true) (hB : Region.lexB .any l.toArray = true) (i0 : I) (h0 : w.drew = F i0)
    (h : wpQuiet Tryz.prog l.toArray (fun w' => ∃ i, w' = F i) (fun a' => ∀ w', (∃ i, w' = F i) → Q .normal a' w') l a) : (Code.region id l.toArray true).wp Tryz.prog Q a w :=
  wp_region_quiet (C := fun w' => ∃ i, w' = F i) hm hB ⟨i0, h0⟩ (by simpa using h)
theorem class_of {I : Type} {F : I → World} {f : FuncId} {args : Array Value} {i : I} {v : Value} (hcl : ∀ i W', Below (F i).heap.size (F i) W' → ∃ j, W' = F j)
    (h : Calls Tryz.prog f args (F i) fun e w' => e = .returned v ∧ Below (F i).heap.size (F i) w') : Calls Tryz.prog f args (F i) fun e w'' => e = .returned v ∧ ∃ j, w'' = F j :=
  h.mono fun _ _ ⟨he, hb⟩ => ⟨he, hcl i _ hb⟩
theorem class_of_same {I : Type} {F : I → World} {f : FuncId} {args : Array Value} {i : I} {v : Value}
    (h : Calls Tryz.prog f args (F i) fun e w' => e = .returned v ∧ w' = F i) : Calls Tryz.prog f args (F i) fun e w'' => e = .returned v ∧ ∃ j, w'' = F j :=
  h.mono fun _ _ ⟨he, hb⟩ => ⟨he, i, hb⟩
/-- The load of a whole array. -/
theorem ld_row {t : TypeId} {n : Nat} {z : Array Value} (A : Arr t n z) {W : World} {g : Nat} {c : Array Value} {t' : TypeId} (hn : c.size = n) (h : W.heap[g]? = some (.cells c t' (0, 0))) : (Instr.loadAt t (.pointer (some ⟨g, 0, none⟩))).run Tryz.prog W = .ok (.agg c) W := by
  simp only [Instr.loadAt, Instr.sureAddr, Sem.run_bind, Sem.run_pure, Result.andThen]
  rcases A.und with ⟨m, e, hd⟩ | ⟨fs, hd⟩
  · exact run_loadVar_row W g t' t c (0, 0) _ h hd rfl (by rw [A.info, hn])
  · exact run_loadVar_row W g t' t c (0, 0) _ h hd rfl (by rw [A.info, hn])
theorem size29 (w : World) : (sizeOf 31).run Tryz.prog w = .ok 1 w := by kernel_rfl
/-- An array of words is equal to itself. -/
theorem eq_words (t : TypeId) (n : Nat) (ht : Tryz.prog.underlying t = some (.array n 31)) (l : List UInt32) (hl : l.length = n) (w : World) : (Op.equalIn 10000 t (.agg (uc l)) (.agg (uc l))).run Tryz.prog w = .ok true w := by
  rw [Op.equalIn]
  simp only [Sem.run_bind, run_underlying ht, Result.andThen_ok, size29, Std.Legacy.Range.forIn_eq_forIn_range', Std.Legacy.Range.size, Nat.sub_zero, Nat.add_sub_cancel, Nat.div_one]
  have hr : ∀ i ∈ List.range' 0 n 1, i < n := fun i hi => by simpa using (List.mem_range'_1.1 hi).2
  generalize List.range' 0 n 1 = r at hr ⊢
  induction r with
  | nil => simp
  | cons i r ih =>
    have hi : i < n := hr i (by simp)
    have hp : (Go.part 31 (uc l) (i * 1)).run Tryz.prog w = .ok (.int .u32 ((l.getD i 0).toNat : Int)) w := by
      simp [Go.part, isAgg, run_underlying Tryz.underlying31, uc, List.getElem?_eq_getElem (show i < l.length by omega)]
    have he := run_equalIn_int w 9998 31 .u32 .u32 ((l.getD i 0).toNat : Int) ((l.getD i 0).toNat : Int) Tryz.underlying31
    rw [beq_self_eq_true] at he
    simp only [List.forIn_cons, Sem.run_bind, hp, he, Result.andThen_ok, Bool.not_true, Bool.false_eq_true, if_false, Sem.run_pure]
    exact ih fun j hj => hr j (by simp [hj])
theorem eq31 (s : St) (W : World) : (Op.equalIn 10000 360 (.agg (uc s.list)) (.agg (uc s.list))).run Tryz.prog W = .ok true W :=
  eq_words 360 8 Tryz.underlying360 s.list rfl W
/-- Arrays held against each other, as an operation of a quiet walk. -/
theorem quiet_eql {C : World → Prop} {a : Act} {o : Oper} {K : Act → Prop} (t : TypeId) (x y : Operand) (t2 : TypeId) (ho : o.op = .binOp .eql t x y t2) (c d : Array Value) (hx : a.eval x = .agg c) (hy : a.eval y = .agg d) (hg : Tryz.prog.eqGuardType Tryz.prog.depth t = false)
    (v : Bool) (hr : ∀ W, (Op.equalIn 10000 t (.agg c) (.agg d)).run Tryz.prog W = .ok v W) (hk : K (a.put o.dst (.bool v))) : o.quiet Tryz.prog a C K := by
  refine ⟨.bool v, fun W _ => ?_, hk⟩
  unfold Oper.quietAt execOp
  simp only [ho, hx, hy, Sem.run_bind, run_eqGuard_agg (P := Tryz.prog) W .eql t x y c d hg, run_eql_struct, hr W, Result.andThen_ok, Sem.run_pure]
  exact ⟨rfl, rfl⟩
theorem eqg31 : Tryz.prog.eqGuardType Tryz.prog.depth 360 = false := by kernel_rfl
theorem eqg25 : Tryz.prog.eqGuardType Tryz.prog.depth 46 = false := by kernel_rfl
theorem eqb (t : TypeId) (n : Nat) (ht : Tryz.prog.underlying t = some (.array n 5)) (l : List UInt8) (hl : l.length = n) (W : World) : (Op.equalIn 10000 t (.agg (hc l)) (.agg (hc l))).run Tryz.prog W = .ok true W := by
  have e := run_equalIn_bytes (P := Tryz.prog) W 9998 t 5 n ht Tryz.underlying5 size5 l l hl hl
  rw [show (l == l) = true from by simp] at e
  exact e
theorem below_next {w w1 w2 : World} (B : Below w.heap.size w w1) (b : Below w1.heap.size w1 w2) : Below w.heap.size w w2 := B.trans (b.mono B.size)
/-- Arrays held against each other, as an operation of a walk, guarded or not. -/
theorem wpList_eql {w : World} {ops : Array Oper} {rest : List Oper} {o : Oper} {a : Act} {Q : Exit → Act → World → Prop} (t : TypeId) (x y : Operand) (t2 : TypeId) (ho : o.op = .binOp .eql t x y t2) (c d : Array Value) (hx : a.eval x = .agg c) (hy : a.eval y = .agg d) (hw : Region.wanted o (yielded ops a.tmps) = true)
    (hg : Tryz.prog.eqGuardType Tryz.prog.depth t = false) (v : Bool) (hr : ∀ W, (Op.equalIn 10000 t (.agg c) (.agg d)).run Tryz.prog W = .ok v W)
    (h : wpList Tryz.prog ops Q rest (a.put o.dst (.bool v)) w) : wpList Tryz.prog ops Q (o :: rest) a w := by
  refine wpList_step fun K hK => ?_
  rw [if_pos hw]
  unfold Oper.wp execOp
  simp only [ho, hx, hy, Sem.run_bind, run_eqGuard_agg (P := Tryz.prog) w .eql t x y c d hg, run_eql_struct, hr w, Result.andThen_ok, Sem.run_pure]
  exact hK _ _ h
theorem wpList_neq {w : World} {ops : Array Oper} {rest : List Oper} {o : Oper} {a : Act} {Q : Exit → Act → World → Prop} (t : TypeId) (x y : Operand) (t2 : TypeId) (ho : o.op = .binOp .neq t x y t2) (c d : Array Value) (hx : a.eval x = .agg c) (hy : a.eval y = .agg d) (hw : Region.wanted o (yielded ops a.tmps) = true)
    (hg : Tryz.prog.eqGuardType Tryz.prog.depth t = false) (v : Bool) (hr : ∀ W, (Op.equalIn 10000 t (.agg c) (.agg d)).run Tryz.prog W = .ok v W)
    (h : wpList Tryz.prog ops Q rest (a.put o.dst (.bool !v)) w) : wpList Tryz.prog ops Q (o :: rest) a w := by
  refine wpList_step fun K hK => ?_
  rw [if_pos hw]
  unfold Oper.wp execOp
  simp only [ho, hx, hy, Sem.run_bind, run_eqGuard_agg (P := Tryz.prog) w .neq t x y c d hg, run_neq_struct, hr w, Result.andThen_ok, Sem.run_pure]
  exact hK _ _ h
end Go.Proofs.YtppooipamibhoaaGreatDoor
