/- A region that draws its order, walked by hand; names; small calls of a disk. Changes of files, and the contract of playOne. -/
import Derived.Test.YtppooipamibhoaaGreatDoorX09
namespace Go.Proofs.YtppooipamibhoaaGreatDoor
open Go.RowKit
open Go.Deep
open Go.Lib
section
variable {ops : Array Oper} {S : World → Prop} {o : Oper} {a : Act}
theorem ylD_load (hw : Region.wanted o (yielded ops a.tmps) = true) {t : TypeId} (x : Operand) (ho : o.op = .load t x) (v : Value) (c : Value) (hx : a.eval x = v) (hr : ∀ W, S W → (Instr.loadAt t v).run Tryz.prog W = .ok c W) : YieldsIf Tryz.prog ops S o c a :=
  .inl ⟨hw, fun W hW => by
    unfold execOp
    simp only [ho, hx, hr W hW, Sem.run_bind, Result.andThen_ok, Sem.run_pure]⟩
theorem ylD_move (hw : Region.wanted o (yielded ops a.tmps) = true) (x : Operand) (ho : o.op = .move x) (v : Value) (hx : a.eval x = v) : YieldsIf Tryz.prog ops S o v a :=
  .inl ⟨hw, fun W _ => by
    unfold execOp
    simp only [ho, hx, Sem.run_pure]⟩
theorem yl_slice (hw : Region.wanted o (yielded ops a.tmps) = true) {t : TypeId} (x : Operand) (lo hi : Option Operand) (ho : o.op = .slice t x lo hi none) (v r : Value) (hx : a.eval x = v) (vl vh : Option Value) (hl : lo.map a.eval = vl) (hh : hi.map a.eval = vh) (hr : ∀ W, (Instr.sliceAt t v vl vh none).run Tryz.prog W = .ok r W) : YieldsIf Tryz.prog ops S o r a :=
  .inl ⟨hw, fun W hW => by
    unfold execOp
    simp only [ho, hx, hl, hh, Option.map_none, hr W, Sem.run_bind, Result.andThen_ok, Sem.run_pure]⟩
end
/-! ### Names -/
/-- May a byte stand in a name? -/
def ofName (b : UInt8) : Bool := (decide (97 ≤ b.toNat) && decide (b.toNat ≤ 122)) || (decide (48 ≤ b.toNat) && decide (b.toNat ≤ 57)) || b.toNat == 46 || b.toNat == 45
def isName (l : List UInt8) : Bool := l.all ofName && decide (1 ≤ l.length) && decide (l.length ≤ 32)
set_option maxHeartbeats 1000000 in
theorem ofName_any (b : UInt8) (w : World) : Calls Tryz.prog 363 #[.int .u8 (b.toNat : Int)] w fun e w' => e = .returned (.bool (ofName b)) ∧ w' = w := by
  unfold ofName
  generalize b.toNat = x
  by_cases h1 : (97 : Int) ≤ x <;> by_cases h2 : (x : Int) ≤ 122 <;> by_cases h3 : (48 : Int) ≤ x <;> by_cases h4 : (x : Int) ≤ 57 <;> by_cases h5 : (x : Int) = 46 <;> by_cases h6 : (x : Int) = 45
  all_goals first | omega | skip
  all_goals
    have g1 : (97 ≤ x) = ((97 : Int) ≤ x) := by apply propext; omega
    have g2 : (x ≤ 122) = ((x : Int) ≤ 122) := by apply propext; omega
    have g3 : (48 ≤ x) = ((48 : Int) ≤ x) := by apply propext; omega
    have g4 : (x ≤ 57) = ((x : Int) ≤ 57) := by apply propext; omega
    have g5 : (x == 46) = decide ((x : Int) = 46) := by rw [Bool.eq_iff_iff]; simp; omega
    have g6 : (x == 45) = decide ((x : Int) = 45) := by rw [Bool.eq_iff_iff]; simp; omega
    simp only [g1, g2, g3, g4, g5, g6, h1, h2, h3, h4, h5, h6]
    clear g1 g2 g3 g4 g5 g6
    go_enter Tryz.func363, Tryz.ntmps363
    go_wp2
    go_ret
    exact ⟨by first | rfl | simp [h5, h6], rfl⟩
theorem all_snoc (s : ByteArray) (k : Nat) (h : k < s.size) : (s.data.toList.take (k + 1)).all ofName = ((s.data.toList.take k).all ofName && ofName s[k]) := by
  rw [List.take_succ_eq_append_getElem (by simpa using h)]
  simp
  rfl
set_option maxHeartbeats 1000000 in
theorem isName_any (s : ByteArray) (w : World) (hs : s.size ≤ maxLen) : Calls Tryz.prog 332 #[.string s] w fun e w' => e = .returned (.bool (isName s.data.toList)) ∧ w' = w := by
  unfold maxLen at hs
  go_enter Tryz.func332, Tryz.ntmps332
  go_wp2
  go_loop [6] (fun i => ∃ k : Nat, k ≤ s.size ∧ i = .int .i64 k ∧ Hid ((s.data.toList.take k).all ofName = true)) (fun i => s.size - (intOf i).toNat)
  case atStart => exact ⟨0, Nat.zero_le _, rfl, rfl⟩
  case round =>
    obtain ⟨k, hk, rfl, ha⟩ := hrel
    by_cases hlt : k < s.size
    · have hsn := hide (all_snoc s k hlt)
      have HB := hide fun W => ofName_any s[k] W
      cases hb : ofName s[k]
      · have hno : Hid (isName s.data.toList = false) := by
          have h1 := hsn.out
          rw [hb, Bool.and_false] at h1
          show _ = _
          unfold isName
          have h2 : s.data.toList.all ofName = false := by
            rw [← List.take_append_drop (k + 1) s.data.toList, List.all_append, h1, Bool.false_and]
          rw [h2, Bool.false_and, Bool.false_and]
        rw [hb] at HB
        clear hsn hb
        go_wp2_with (go_at_call 363; refine (HB.out _).mono ?_; rintro e w' ⟨rfl, rfl⟩)
        go_ret
        exact ⟨by rw [hno.out]; rfl, rfl⟩
      · have hyes : Hid ((s.data.toList.take (k + 1)).all ofName = true) := by
          show _ = _
          rw [hsn.out, ha.out, hb]
          rfl
        rw [hb] at HB
        clear hsn hb
        go_wp2_with (go_at_call 363; refine (HB.out _).mono ?_; rintro e w' ⟨rfl, rfl⟩)
        go_round
        case rel => exact ⟨k + 1, by omega, by go_num, hyes⟩
        case measure => simp [intOf]; omega
    · have hke : k = s.size := by omega
      subst hke
      have hall : Hid (isName s.data.toList = (decide (1 ≤ s.size) && decide (s.size ≤ 32))) := by
        show _ = _
        unfold isName
        have h1 := ha.out
        rw [List.take_of_length_le (by simp)] at h1
        rw [h1, Bool.true_and]
        simp
      by_cases h1 : (1 : Int) ≤ s.size <;> by_cases h2 : (s.size : Int) ≤ 32
      all_goals
        go_wp2
        go_ret
        refine ⟨?_, rfl⟩
        rw [hall.out]
        have e1 : (1 ≤ s.size) = ((1 : Int) ≤ s.size) := by apply propext; omega
        have e2 : (s.size ≤ 32) = ((s.size : Int) ≤ 32) := by apply propext; omega
        simp [e1, e2, h1, h2]
end Go.Proofs.YtppooipamibhoaaGreatDoor
namespace Go.Proofs.YtppooipamibhoaaGreatDoor
open Go.RowKit
open Go.Deep
open Go.Lib
/-- A change: its kind, the names, the place, the bytes. -/
structure Ch where
  kind : Nat
  name : ByteArray
  dst : ByteArray
  pos : Nat
  s : ByteArray
abbrev lsD (s : ByteArray) : List UInt8 := s.data.toList
/-- Files behind a change. -/
def doC (f : FS) (c : Ch) : FS :=
  if c.kind = 0 then f.put (lsD c.name) (wr8 (f.at (lsD c.name)) c.pos (lsD c.s))
  else if c.kind = 1 then f.put (lsD c.name) ((f.at (lsD c.name)).take c.pos)
  else if c.kind = 2 then (f.del (lsD c.name)).put (lsD c.dst) (f.at (lsD c.name))
  else f.del (lsD c.name)
theorem run_from (s : ByteArray) (k : Nat) (hk : k ≤ s.size) (W : World) : (Instr.sliceAt 9 (.string s) (some (.int .i64 (k : Int))) none none).run Tryz.prog W = .ok (.string (s.extract k s.size)) W := by
  simp [Instr.sliceAt, Instr.slice, run_underlying Tryz.underlying9, Instr.sliceBounds, Instr.sliceBound, asIntOf, hk, Result.andThen]
theorem cpl_len (l : List UInt8) (k : Nat) (s : ByteArray) (hk : k ≤ l.length) : (cpl l k s).length = l.length := by
  have h1 : cpn l k s ≤ s.size := Nat.min_le_left _ _
  have h2 : cpn l k s ≤ l.length - k := Nat.min_le_right _ _
  simp [cpl]
  omega
/-- A change that may be done to files. -/
structure okC (f : FS) (c : Ch) : Prop where
  kind : c.kind ≤ 3
  name : c.name.size ≤ maxLen
  dst : c.dst.size ≤ maxLen
  pos : c.kind ≤ 1 → c.pos ≤ (f.at (lsD c.name)).length
  len : (f.at (lsD c.name)).length + c.s.size ≤ 140737488355328
  n : f.n + 1 < maxLen
section
variable {w w1 : World} {ops : Array Oper} {rest : List Oper} {o : Oper} {a : Act} {K : Act → World → Prop} {Q : Exit → Act → World → Prop} {E0 : Prop}
/-- An operation whose run is known, as one step of a region that draws. -/
theorem step_run (hgd : o.guard = none) {v : Value} (hr : (execOp a.eval o).run Tryz.prog w = .ok (.value v) w1) (hk : K (a.put o.dst v) w1) : if Region.wanted o (yielded ops a.tmps) = true then Oper.wp Tryz.prog o a w K Q else E0 := by
  have hw : Region.wanted o (yielded ops a.tmps) = true := by simp [Region.wanted, hgd]
  rw [if_pos hw]
  unfold Oper.wp
  rw [hr]
  exact hk
theorem list_run (hgd : o.guard = none) {v : Value} (hr : (execOp a.eval o).run Tryz.prog w = .ok (.value v) w1) (hk : wpList Tryz.prog ops Q rest (a.put o.dst v) w1) : wpList Tryz.prog ops Q (o :: rest) a w := by
  refine wpList_plain hgd fun K hK => ?_
  unfold Oper.wp
  rw [hr]
  exact hK _ _ hk
theorem step_skip (hgd : o.guard = none) (hr : (execOp a.eval o).run Tryz.prog w = .ok .skip w1) (hk : K (a.put o.dst undef) w1) : if Region.wanted o (yielded ops a.tmps) = true then Oper.wp Tryz.prog o a w K Q else E0 := by
  have hw : Region.wanted o (yielded ops a.tmps) = true := by simp [Region.wanted, hgd]
  rw [if_pos hw]
  unfold Oper.wp
  rw [hr]
  exact hk
theorem list_skip (hgd : o.guard = none) (hr : (execOp a.eval o).run Tryz.prog w = .ok .skip w1) (hk : wpList Tryz.prog ops Q rest (a.put o.dst undef) w1) : wpList Tryz.prog ops Q (o :: rest) a w := by
  refine wpList_plain hgd fun K hK => ?_
  unfold Oper.wp
  rw [hr]
  exact hK _ _ hk
theorem ex_copy (x y : Operand) (ho : o.op = .call { callee := .builtin .copy, args := #[x, y], argTypes := #[258, 9] }) {vx vy r : Value} (hx : a.eval x = vx) (hy : a.eval y = vy) (hr : (Builtin.copy_ #[258, 9] o.type #[vx, vy]).run Tryz.prog w = .ok r w1) : (execOp a.eval o).run Tryz.prog w = .ok (.value r) w1 := by
  unfold execOp
  simp only [ho, resolve, invoke, builtin, Sem.run_bind, Sem.run_pure, Result.andThen_ok, List.map_toArray, List.map_cons, List.map_nil, hx, hy, hr]
theorem ex_appS (x y : Operand) (ho : o.op = .call { callee := .builtin .append, args := #[x, y], argTypes := #[258, 9] }) {vx vy r : Value} (hx : a.eval x = vx) (hy : a.eval y = vy) (hr : (Builtin.append_ #[258, 9] o.type #[vx, vy]).run Tryz.prog w = .ok r w1) : (execOp a.eval o).run Tryz.prog w = .ok (.value r) w1 := by
  unfold execOp
  simp only [ho, resolve, invoke, builtin, Sem.run_bind, Sem.run_pure, Result.andThen_ok, List.map_toArray, List.map_cons, List.map_nil, hx, hy, hr]
theorem ex_del (x y : Operand) (ho : o.op = .call { callee := .builtin .delete, args := #[x, y], argTypes := #[230, 9] }) {vx vy r : Value} (hx : a.eval x = vx) (hy : a.eval y = vy) (hr : (Builtin.delete_ #[230, 9] o.type #[vx, vy]).run Tryz.prog w = .ok r w1) : (execOp a.eval o).run Tryz.prog w = .ok (.value r) w1 := by
  unfold execOp
  simp only [ho, resolve, invoke, builtin, Sem.run_bind, Sem.run_pure, Result.andThen_ok, List.map_toArray, List.map_cons, List.map_nil, hx, hy, hr]
theorem ex_put (m x y : Operand) (ho : o.op = .mapUpdate 230 m x y) {vm vx vy : Value} (hm : a.eval m = vm) (hx : a.eval x = vx) (hy : a.eval y = vy) (hr : (Instr.mapUpdate 230 vm vx vy).run Tryz.prog w = .ok () w1) : (execOp a.eval o).run Tryz.prog w = .ok .skip w1 := by
  unfold execOp
  simp only [ho, hm, hx, hy, hr, Sem.run_bind, Sem.run_pure, Result.andThen_ok]
end
section
variable {w : World} {b : Nat} {F : List UInt8 → Option Value} {f : FS} {S : Nat → Prop}
set_option maxRecDepth 10000
set_option maxHeartbeats 4000000
theorem playOne_write (nm tn s : ByteArray) (k : Nat) (w : World) (h : Fs w b F f S) (hnm : nm.size ≤ maxLen) (hk : k ≤ (f.at (lsD nm)).length) (hl : (f.at (lsD nm)).length + s.size ≤ 140737488355328) (hn : f.n + 1 < maxLen) :
    Calls Tryz.prog 271 #[.map (some b), .agg #[.int .i64 0, .string nm, .string tn, .int .i64 (k : Int), .string s]] w fun e w' => (∃ r, e = .returned r) ∧ ∃ F', Fs w' b F' (f.put (lsD nm) (wr8 (f.at (lsD nm)) k (lsD s))) (grow S w w') ∧ Fr S w w' := by
  have hB : Below w.heap.size w (w.alloc (.cells #[.int .i64 0, .string nm, .string tn, .int .i64 (k : Int), .string s] 327)) := (Below.refl _ _).alloc (Nat.le_refl _) _
  have h1 := hide (h.below hB)
  have hL := h1.out.mp.look hnm
  have R1 := hide (heap_alloc_last w (.cells #[.int .i64 0, .string nm, .string tn, .int .i64 (k : Int), .string s] 327))
  have hS0 := hide h.lt
  have ov := h1.out.ownv (lsD nm)
  obtain ⟨ao, n, c, hv, hnn⟩ := ov.form
  have HV : Hid (vl F (lsD nm) = .slice ao n c) := hv
  have OV : Hid (Own (w.alloc (.cells #[.int .i64 0, .string nm, .string tn, .int .i64 (k : Int), .string s] 327)) (.slice ao n c) (f.at (lsD nm))) := by rw [← hv]; exact ov
  have hF : (F nm.data.toList).getD (.slice none 0 0) = .slice ao n c := hv
  rw [hF] at hL
  have HB := hide hB
  have HK := hide (And.intro hk (And.intro hl (And.intro hn hnm)))
  clear h hB ov hv hnn hF hk hl hn hnm
  go_enter Tryz.func271, Tryz.ntmps271
  go_upto_region 4 with fail
  clear hL
  generalize hgb : w.heap.size = gb at *
  have BN : Hid (b ≠ gb ∧ ∀ g, (Value.slice ao n c).ownBlock = some g → g ≠ gb) := by
    refine ⟨fun e => ?_, fun g hg e => ?_⟩
    · have := hS0.out b h1.out.self
      omega
    · have := hS0.out g (h1.out.ins _ _ g (fun e => e) (val_some HV.out hg) hg)
      omega
  generalize w.alloc (.cells #[.int .i64 0, .string nm, .string tn, .int .i64 (k : Int), .string s] 327) = W1 at *
  have CC : Hid (∀ W : World, W.heap[gb]? = some (.cells #[.int .i64 0, .string nm, .string tn, .int .i64 (k : Int), .string s] 327 (0, 0)) → W.cell? ⟨gb, 1, none⟩ = some (.string nm) ∧ W.cell? ⟨gb, 3, none⟩ = some (.int .i64 (k : Int)) ∧ W.cell? ⟨gb, 4, none⟩ = some (.string s)) := fun W hW => by
    refine ⟨?_, ?_, ?_⟩ <;> (rw [cell_of_row _ _ _ _ _ _ hW]; rfl)
  refine wp_region_held_drew (S := fun W => W.heap[gb]? = some (.cells #[.int .i64 0, .string nm, .string tn, .int .i64 (k : Int), .string s] 327 (0, 0))) (by kernel_rfl) R1.out (fun hH => ?_)
  refine wpAnyH_take (i := 0) (v := .slice ao n c) rfl (by kernel_rfl) (by kernel_rfl) (by kernel_rfl) (fun _ _ _ h => h) (ylD_move (by rfl) _ (by rfl) _ (by rfl)) hH ?_
  change wpAnyH _ _ _ _ _ _ _ (Act.put _ (some 14) _) _
  simp only [Act.put, List.setIfInBounds_toArray, List.set_cons_zero, List.set_cons_succ]
  refine wpAnyH_take (i := 1) (v := .pointer (some ⟨gb, 3, none⟩)) rfl (by kernel_rfl) (by kernel_rfl) (by kernel_rfl) (fun _ _ _ h => h) (.inl ⟨by rfl, fun W _ => by go_simp⟩) hH ?_
  change wpAnyH _ _ _ _ _ _ _ (Act.put _ (some 15) _) _
  simp only [Act.put, List.setIfInBounds_toArray, List.set_cons_zero, List.set_cons_succ]
  refine wpAnyH_take (i := 2) (v := .int .i64 (k : Int)) rfl (by kernel_rfl) (by kernel_rfl) (by kernel_rfl) (fun _ _ _ h => h) (.inl ⟨by rfl, fun W hS => by have c4 := (CC.out W hS).2.1; go_simp⟩) hH ?_
  change wpAnyH _ _ _ _ _ _ _ (Act.put _ (some 16) _) _
  simp only [Act.put, List.setIfInBounds_toArray, List.set_cons_zero, List.set_cons_succ]
  refine wpAnyH_take (i := 3) (v := slv (.slice ao n c) k) rfl (by kernel_rfl) (by kernel_rfl) (by kernel_rfl) (fun _ _ _ h => h) (yl_slice (by rfl) _ _ _ (by rfl) _ _ (by rfl) _ _ (by rfl) (by rfl) (fun W => run_slvA OV.out k HK.out.1 W)) hH ?_
  change wpAnyH _ _ _ _ _ _ _ (Act.put _ (some 17) _) _
  simp only [Act.put, List.setIfInBounds_toArray, List.set_cons_zero, List.set_cons_succ]
  refine wpAnyH_take (i := 4) (v := .pointer (some ⟨gb, 4, none⟩)) rfl (by kernel_rfl) (by kernel_rfl) (by kernel_rfl) (fun _ _ _ h => h) (.inl ⟨by rfl, fun W _ => by go_simp⟩) hH ?_
  change wpAnyH _ _ _ _ _ _ _ (Act.put _ (some 18) _) _
  simp only [Act.put, List.setIfInBounds_toArray, List.set_cons_zero, List.set_cons_succ]
  refine wpAnyH_take (i := 5) (v := .string s) rfl (by kernel_rfl) (by kernel_rfl) (by kernel_rfl) (fun _ _ _ h => h) (.inl ⟨by rfl, fun W hS => by have c4 := (CC.out W hS).2.2; go_simp⟩) hH ?_
  change wpAnyH _ _ _ _ _ _ _ (Act.put _ (some 19) _) _
  simp only [Act.put, List.setIfInBounds_toArray, List.set_cons_zero, List.set_cons_succ]
  obtain ⟨w2, hr2, o2, on2⟩ := run_copyS (w := W1.drew) (OV.out.of_block fun _ _ => rfl) k HK.out.1 s 3
  have R2 : Hid (w2.heap[gb]? = some (.cells #[.int .i64 0, .string nm, .string tn, .int .i64 (k : Int), .string s] 327 (0, 0))) := (on2.grown.block gb (lt_heap R1.out) (fun e => BN.out.2 gb e.symm rfl)).trans R1.out
  have O2 := hide o2
  have ON2 := hide on2
  clear o2 on2
  refine wpAnyH_ready (rs := [6]) (by kernel_rfl) (by simp) (AllReadyH.cons rfl (fun K1 hK1 => ?_) AllReadyH.nil)
  refine step_run (by rfl) (ex_copy _ _ (by rfl) (by rfl) (by rfl) hr2) ?_
  refine hK1.out _ _ R2.out (fun hH => ?_)
  clear hK1 hr2
  change wpAnyH _ _ _ _ _ _ _ (Act.put _ (some 20) _) _
  simp only [Act.put, List.setIfInBounds_toArray, List.set_cons_zero, List.set_cons_succ]
  refine wpAnyH_take (i := 7) (v := .int .i64 (cpn (f.at (lsD nm)) k s : Nat)) rfl (by kernel_rfl) (by kernel_rfl) (by kernel_rfl) (fun _ _ _ h => h) (.inl ⟨by rfl, fun W _ => by go_simp⟩) hH ?_
  change wpAnyH _ _ _ _ _ _ _ (Act.put _ (some 5) _) _
  simp only [Act.put, List.setIfInBounds_toArray, List.set_cons_zero, List.set_cons_succ]
  refine wpAnyH_done (by kernel_rfl) ?_ _
  have i0 : (0 : Int) ≤ (cpn (f.at (lsD nm)) k s : Nat) := by omega
  have i1 : ((cpn (f.at (lsD nm)) k s : Nat) : Int) ≤ s.size := by unfold cpn; omega
  have HM := hide (show cpn (f.at (lsD nm)) k s ≤ s.size by unfold cpn; omega)
  go_upto_region 5 with fail
  refine wp_region_held_drew (S := fun W => W.heap[gb]? = some (.cells #[.int .i64 0, .string nm, .string tn, .int .i64 (k : Int), .string s] 327 (0, 0))) (by kernel_rfl) R2.out (fun hH => ?_)
  refine wpAnyH_take (i := 0) (v := .map (some b)) rfl (by kernel_rfl) (by kernel_rfl) (by kernel_rfl) (fun _ _ _ h => h) (ylD_move (by rfl) _ (by rfl) _ (by rfl)) hH ?_
  change wpAnyH _ _ _ _ _ _ _ (Act.put _ (some 21) _) _
  simp only [Act.put, List.setIfInBounds_toArray, List.set_cons_zero, List.set_cons_succ]
  refine wpAnyH_take (i := 1) (v := .pointer (some ⟨gb, 1, none⟩)) rfl (by kernel_rfl) (by kernel_rfl) (by kernel_rfl) (fun _ _ _ h => h) (.inl ⟨by rfl, fun W _ => by go_simp⟩) hH ?_
  change wpAnyH _ _ _ _ _ _ _ (Act.put _ (some 22) _) _
  simp only [Act.put, List.setIfInBounds_toArray, List.set_cons_zero, List.set_cons_succ]
  refine wpAnyH_take (i := 2) (v := .string nm) rfl (by kernel_rfl) (by kernel_rfl) (by kernel_rfl) (fun _ _ _ h => h) (.inl ⟨by rfl, fun W hS => by have c4 := (CC.out W hS).1; go_simp⟩) hH ?_
  change wpAnyH _ _ _ _ _ _ _ (Act.put _ (some 23) _) _
  simp only [Act.put, List.setIfInBounds_toArray, List.set_cons_zero, List.set_cons_succ]
  refine wpAnyH_take (i := 3) (v := .slice ao n c) rfl (by kernel_rfl) (by kernel_rfl) (by kernel_rfl) (fun _ _ _ h => h) (ylD_move (by rfl) _ (by rfl) _ (by rfl)) hH ?_
  change wpAnyH _ _ _ _ _ _ _ (Act.put _ (some 24) _) _
  simp only [Act.put, List.setIfInBounds_toArray, List.set_cons_zero, List.set_cons_succ]
  refine wpAnyH_take (i := 4) (v := .pointer (some ⟨gb, 4, none⟩)) rfl (by kernel_rfl) (by kernel_rfl) (by kernel_rfl) (fun _ _ _ h => h) (.inl ⟨by rfl, fun W _ => by go_simp⟩) hH ?_
  change wpAnyH _ _ _ _ _ _ _ (Act.put _ (some 25) _) _
  simp only [Act.put, List.setIfInBounds_toArray, List.set_cons_zero, List.set_cons_succ]
  refine wpAnyH_take (i := 5) (v := .string s) rfl (by kernel_rfl) (by kernel_rfl) (by kernel_rfl) (fun _ _ _ h => h) (.inl ⟨by rfl, fun W hS => by have c4 := (CC.out W hS).2.2; go_simp⟩) hH ?_
  change wpAnyH _ _ _ _ _ _ _ (Act.put _ (some 26) _) _
  simp only [Act.put, List.setIfInBounds_toArray, List.set_cons_zero, List.set_cons_succ]
  refine wpAnyH_take (i := 6) (v := .int .i64 (cpn (f.at (lsD nm)) k s : Nat)) rfl (by kernel_rfl) (by kernel_rfl) (by kernel_rfl) (fun _ _ _ h => h) (ylD_move (by rfl) _ (by rfl) _ (by rfl)) hH ?_
  change wpAnyH _ _ _ _ _ _ _ (Act.put _ (some 27) _) _
  simp only [Act.put, List.setIfInBounds_toArray, List.set_cons_zero, List.set_cons_succ]
  refine wpAnyH_take (i := 7) (v := .string (s.extract (cpn (f.at (lsD nm)) k s) s.size)) rfl (by kernel_rfl) (by kernel_rfl) (by kernel_rfl) (fun _ _ _ h => h) (yl_slice (by rfl) _ _ _ (by rfl) _ _ (by rfl) _ _ (by rfl) (by rfl) (fun W => run_from s _ HM.out W)) hH ?_
  change wpAnyH _ _ _ _ _ _ _ (Act.put _ (some 28) _) _
  simp only [Act.put, List.setIfInBounds_toArray, List.set_cons_zero, List.set_cons_succ]
  obtain ⟨v3, w3, hr3, o3, on3⟩ := run_appS (w := w2.drew) (O2.out.of_block fun _ _ => rfl) (s.extract (cpn (f.at (lsD nm)) k s) s.size) 258 (by
    have h1 := HK.out.2.1
    have h2 := cpl_len (f.at (lsD nm)) k s HK.out.1
    have h3 : (s.extract (cpn (f.at (lsD nm)) k s) s.size).size ≤ s.size := by simp
    omega)
  rw [ext_list, cp_app _ _ _ HK.out.1] at o3
  have ona := (((Onto.refl W1 _).drew.trans ON2.out).drew).trans on3
  have fq := h1.out.onto HV.out ona
  obtain ⟨w4, hr4, f4, g4, z4⟩ := fq.put rfl (by have := HK.out.2.2.1; omega) HK.out.2.2.2 o3 (fun g hg => by
    rcases ona.lies with e | ⟨g1, e, hge⟩
    · rw [e] at hg
      exact .inl (h1.out.ins _ _ g (fun e => e) (val_some HV.out hg) hg)
    · rw [e] at hg
      cases hg
      exact .inr ⟨hge, o3.ltb e⟩) (h1.out.beside HV.out ona)
  have R3 : w3.heap[gb]? = some (.cells #[.int .i64 0, .string nm, .string tn, .int .i64 (k : Int), .string s] 327 (0, 0)) := (on3.grown.block gb (lt_heap R2.out) (fun e => BN.out.2 gb e.symm rfl)).trans R2.out
  have R4 : w4.heap[gb]? = some (.cells #[.int .i64 0, .string nm, .string tn, .int .i64 (k : Int), .string s] 327 (0, 0)) := (g4.block gb (lt_heap R3) (fun e => BN.out.1 (by cases e; rfl))).trans R3
  have FF : Hid (Fr S w w4 ∧ ∃ F', Fs w4 b F' (f.put (lsD nm) (wr8 (f.at (lsD nm)) k (lsD s))) (grow S w w4)) := by
    have hb := HB.out
    rw [← hgb] at hb
    have r1 : Fr S w W1 := Fr.of_below hb
    have r2 : Fr S W1 w3 := Fr.of_grown ona.grown (fun g hg => h1.out.ins _ _ g (fun e => e) (val_some HV.out hg) hg)
    have r3 : Fr S w3 w4 := Fr.of_grown g4 (fun g hg => by cases hg; exact h1.out.self)
    have r4 := r1.trans' (r2.trans' r3)
    refine ⟨r4, _, f4.wide (fun g hg => ?_) (grow_lt (fun g hg => by rw [hgb]; exact hS0.out g hg) r4.size)⟩
    rcases hg with hg | ⟨hg1, hg2⟩
    · exact .inl hg
    · exact .inr ⟨Nat.le_trans r1.size hg1, by omega⟩
  clear f4 fq ona g4 z4 on3 o3
  refine wpAnyH_ready (rs := [8]) (by kernel_rfl) (by simp) (AllReadyH.cons rfl (fun K1 hK1 => ?_) AllReadyH.nil)
  refine step_run (by rfl) (ex_appS _ _ (by rfl) (by rfl) (by rfl) hr3) ?_
  refine hK1.out _ _ R3 (fun hH => ?_)
  clear hK1 hr3
  change wpAnyH _ _ _ _ _ _ _ (Act.put _ (some 29) _) _
  simp only [Act.put, List.setIfInBounds_toArray, List.set_cons_zero, List.set_cons_succ]
  refine wpAnyH_ready (rs := [9]) (by kernel_rfl) (by simp) (AllReadyH.cons rfl (fun K1 hK1 => ?_) AllReadyH.nil)
  refine step_skip (by rfl) (ex_put _ _ _ (by rfl) (by rfl) (by rfl) (by rfl) hr4) ?_
  refine hK1.out _ _ R4 (fun hH => ?_)
  clear hK1 hr4
  refine wpAnyH_done (by kernel_rfl) ?_ _
  go_wp2
  refine bodyPost_end (results_none (by kernel_rfl) _ _ _) rfl ?_
  obtain ⟨r4, F4, f4⟩ := FF.out
  exact ⟨⟨_, rfl⟩, F4, f4, r4⟩
end
end Go.Proofs.YtppooipamibhoaaGreatDoor
