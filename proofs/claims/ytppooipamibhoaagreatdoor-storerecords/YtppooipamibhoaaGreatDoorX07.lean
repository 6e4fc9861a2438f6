/- num: the readers and writers: their contracts (a seat with sha). The digest: the contracts of Twice and of the document's Twice. -/
import Derived.Test.YtppooipamibhoaaGreatDoorX06
namespace Go.Proofs.YtppooipamibhoaaGreatDoor
open Go.RowKit
open Go.Deep
/-- The number of bytes, the lowest first. -/
def leN : List UInt8 → Nat
  | [] => 0
  | b :: r => b.toNat + 256 * leN r
theorem leN_app (a b : List UInt8) : leN (a ++ b) = leN a + 256 ^ a.length * leN b := by
  induction a with
  | nil => simp [leN]
  | cons x a ih =>
    rw [List.cons_append, leN, leN, ih, List.length_cons, Nat.pow_succ, Nat.mul_add, Nat.mul_comm (256 ^ a.length) 256, Nat.mul_assoc]
    omega
theorem leN_lt (a : List UInt8) : leN a < 256 ^ a.length := by
  induction a with
  | nil => simp [leN]
  | cons x a ih =>
    have := x.toNat_lt
    rw [leN, List.length_cons, Nat.pow_succ]
    omega
theorem leN_dropL (l : List UInt8) (k : Nat) (h : k < l.length) : leN (l.drop k) = l[k].toNat + 256 * leN (l.drop (k + 1)) := by
  rw [List.drop_eq_getElem_cons h]; rfl
theorem leN_lt8 (l : List UInt8) (h : l.length ≤ 7) : leN l < 72057594037927936 := by
  have h1 := leN_lt l
  have h2 : 256 ^ l.length ≤ 256 ^ 7 := Nat.pow_le_pow_right (by decide) h
  have h3 : 256 ^ 7 = 72057594037927936 := by decide
  omega
theorem wrapb (b : UInt8) : IntKind.u64.wrap (b.toNat : Int) = (b.toNat : Int) := by
  have := b.toNat_lt
  exact wrapu _ (by omega) (by omega)
theorem or_step (s : ByteArray) (j : Nat) (h : j < s.size) (hb : leN (s.data.toList.drop (j + 1)) < 72057594037927936) :
    bits BinOp.or IntKind.u64 (↑(leN (List.drop (j + 1) s.data.toList)) * 256) (IntKind.u64.wrap ↑s[j].toNat) = (leN (s.data.toList.drop j) : Int) := by
  have e := leN_dropL s.data.toList j (by simpa using h)
  have e2 : s.data.toList[j]'(by simpa using h) = s[j] := rfl
  have l := s[j].toNat_lt
  rw [e2] at e
  rw [wrapb, bits_join .u64 64 (by decide) (fun n h0 h1 => wrapu n h0 (by simpa using h1)) 8 _ _ (by omega) (by omega) (by omega) (by omega) (by omega) (by omega)]
  omega
set_option maxHeartbeats 400000 in
theorem lowFirst_any (s : ByteArray) (w : World) (hs : s.size ≤ 8) :
    Calls Tryz.prog 275 #[.string s] w fun e w' => e = .returned (.int .u64 (leN s.data.toList)) ∧ w' = w := by
  go_enter Tryz.func275, Tryz.ntmps275
  go_wp2
  go_loop [3, 4] (fun n i => ∃ k : Nat, k ≤ s.size ∧ i = .int .i64 ((k : Int) - 1) ∧ n = .int .u64 (leN (s.data.toList.drop k))) (fun _ i => (intOf i + 1).toNat)
  case atStart => exact ⟨s.size, Nat.le_refl _, rfl, by rw [List.drop_of_length_le (by simp)]; rfl⟩
  case round =>
    obtain ⟨k, hk, rfl, rfl⟩ := hrel
    by_cases hlt : 0 < k
    · obtain ⟨j, rfl⟩ : ∃ j, k = j + 1 := ⟨k - 1, by omega⟩
      have hb : leN (s.data.toList.drop (j + 1)) < 72057594037927936 := leN_lt8 _ (by simp; omega)
      go_wp2
      exact ⟨⟨j, by omega, rfl, by rw [or_step s j ‹_› hb]⟩, by simp [intOf]⟩
    · go_wp2
      go_ret
      exact ⟨by rw [show k = 0 by omega]; rfl, rfl⟩
def lowL (n : Nat) : Nat → List UInt8
  | 0 => []
  | k + 1 => UInt8.ofNat (n % 256) :: lowL (n / 256) k
theorem lowL_len (n k : Nat) : (lowL n k).length = k := by
  induction k generalizing n with
  | zero => rfl
  | succ k ih => simp [lowL, ih]
def U64 (n : Nat) : Prop := n < 18446744073709551616
theorem U64.lt {n : Nat} (h : U64 n) : n < 18446744073709551616 := h
theorem U64.div {n : Nat} (h : U64 n) : U64 (n / 256) := by unfold U64 at *; omega
/-- A one-byte slice that was just built, turned into a string. -/
theorem conv1 (W : World) (b : UInt8) (x : Int) (hx : x = b.toNat) : (convert 258 9 (.slice (some ⟨W.heap.size, 0, none⟩) 1 1)).run Tryz.prog (W.alloc (.cells #[.int .u8 x] 5)) = .ok (.string ⟨#[b]⟩) (W.alloc (.cells #[.int .u8 x] 5)) := by
  subst hx
  refine run_convert_bytes_back (P := Tryz.prog) _ 258 9 5 ⟨W.heap.size, 0, none⟩ 1 [b] Tryz.underlying258 Tryz.underlying5 Tryz.underlying9 ?_
  intro j hj
  simp at hj
  subst hj
  simp [go_sem, Addr.add]
theorem byte_of (x : Nat) : ((x : Int) % 256) = ((UInt8.ofNat (x % 256)).toNat : Int) := by
  rw [UInt8.toNat_ofNat']
  omega
set_option maxRecDepth 10000 in
set_option maxHeartbeats 400000 in
theorem low_any (n k : Nat) (K : Int) (hK : K = k) (hn : U64 n) (w : World) (hk : k ≤ 8) :
    Calls Tryz.prog 223 #[.int .u64 n, .int .i64 K] w fun e w' => e = .returned (.string ⟨(lowL n k).toArray⟩) ∧ Below w.heap.size w w' := by
  subst hK
  go_enter Tryz.func223, Tryz.ntmps223
  go_wp2
  go_loopw [0, 5, 6] (fun m o i w' => ∃ (j x : Nat) (l : List UInt8), j ≤ k ∧ i = .int .i64 (j : Int) ∧ m = .int .u64 (x : Nat) ∧ U64 x ∧ o = .string ⟨l.toArray⟩ ∧ Hid (l ++ lowL x (k - j) = lowL n k) ∧ Below w.heap.size w w') (fun _ _ i _ => (k - intOf i).toNat)
  case atStart => exact ⟨0, n, [], Nat.zero_le _, rfl, rfl, hn, rfl, by simp [Hid], Below.refl _ _⟩
  case round =>
    obtain ⟨j, x, l, hj, rfl, rfl, hx, rfl, hl, hg⟩ := hrel
    by_cases hlt : j < k
    · have hc := conv1 wr _ _ (byte_of x)
      have hll : l.length ≤ 8 := by
        have := congrArg List.length hl.out
        simp only [List.length_append, lowL_len] at this
        omega
      go_wp2
      refine ⟨⟨j + 1, x / 256, l ++ [UInt8.ofNat (x % 256)], by omega, by go_num, ?_, hx.div, ?_, ?_, hg.alloc hg.size _⟩, by simp [intOf]; omega⟩
      · have := hx.lt
        rw [wrapu _ (by omega) (by omega)]
        rfl
      · simp [ByteArray.ext_iff]
      · have := hl.out
        rw [show k - j = (k - (j + 1)) + 1 by omega] at this
        simpa [Hid, lowL] using this
    · have he : l = lowL n k := by
        have := hl.out
        rw [show k - j = 0 by omega] at this
        simpa [lowL] using this
      subst he
      go_wp2
      go_ret
      exact ⟨rfl, hg⟩
set_option maxRecDepth 10000 in
set_option maxHeartbeats 400000 in
theorem putLow_any (v : Value) (l : List UInt8) (n k : Nat) (K : Int) (hK : K = k) (hn : U64 n) (w : World) (hk : k ≤ 8) (hl : l.length ≤ 70368744177664) (hown : Own w v l) :
    Calls Tryz.prog 281 #[v, .int .u64 n, .int .i64 K] w fun e w' => ∃ v', e = .returned v' ∧ Own w' v' (l ++ lowL n k) ∧ Onto w w' v v' := by
  subst hK
  go_enter Tryz.func281, Tryz.ntmps281
  go_wp2
  go_loopw [0, 1, 8] (fun v1 m i w' => ∃ (j x : Nat) (l1 : List UInt8), j ≤ k ∧ i = .int .i64 (j : Int) ∧ m = .int .u64 (x : Nat) ∧ U64 x ∧ Own w' v1 l1 ∧ Hid (l1 ++ lowL x (k - j) = l ++ lowL n k) ∧ Onto w w' v v1) (fun _ _ i _ => (k - intOf i).toNat)
  case atStart => exact ⟨0, n, l, Nat.zero_le _, rfl, rfl, hn, hown, by simp [Hid], Onto.refl _ _⟩
  case round =>
    obtain ⟨j, x, l1, hj, rfl, rfl, hx, ho, hl1, hon⟩ := hrel
    by_cases hlt : j < k
    · have hll : l1.length ≤ 70368744177672 := by
        have := congrArg List.length hl1.out
        simp only [List.length_append, lowL_len] at this
        omega
      go_wp2_with (at_builtin; refine wpList_app rfl _ _ rfl u0 _ rfl (ho.alloc _) ⟨wr.heap.size, 0, none⟩ 1 1 [UInt8.ofNat (x % 256)] rfl rfl (one_new _ _ _ (byte_of x)) (by omega) ?_; intro v' w3 hown' hon3)
      refine ⟨⟨j + 1, x / 256, _, by omega, by go_num, by rfl, hx.div, hown', ?_, hon.trans (((Onto.refl _ _).alloc _).trans hon3)⟩, by simp [intOf]; omega⟩
      have := hl1.out
      rw [show k - j = (k - (j + 1)) + 1 by omega] at this
      simpa [Hid, lowL] using this
    · have he : l1 = l ++ lowL n k := by
        have := hl1.out
        rw [show k - j = 0 by omega] at this
        simpa [lowL] using this
      subst he
      go_wp2
      go_ret
      exact ⟨u0, rfl, ho, hon⟩
theorem run_app_str {w : World} {ty : TypeId} {v : Value} {l : List UInt8} (hown : Own w v l) (s : ByteArray) (hsm : l.length + s.size ≤ 140737488355328) :
    ∃ v' w', (Builtin.append_ #[258, 9] ty #[v, .string s]).run Tryz.prog w = .ok v' w' ∧ Own w' v' (l ++ s.data.toList) ∧ Onto w w' v v' := by
  obtain ⟨i0, hi, hz0, hz1, hz2⟩ := info_parts info5
  obtain ⟨v', w', hr, h2, h3, h4⟩ := Lib.run_append_own_string (P := Tryz.prog) w 0 258 9 ty 5 i0 Tryz.underlying258 Tryz.underlying9 hi hz0 hz1 hz2 v l.length (cellsL l) hown s (by unfold maxLen; omega) hsm (Nat.zero_le _)
  refine ⟨v', w', hr, ?_, ⟨h3, ?_⟩⟩
  · unfold Own
    rw [List.length_append, cellsL_app]
    exact h2
  · have hS : Src Tryz.prog i0.size 9 (.string s) s.size (Go.byteCells s) w := by rw [hz1]; exact Src.ofString w Tryz.underlying9 s
    rcases hown.2 with ⟨rfl, h0⟩ | ⟨g, cap, cur, rfl, hb, hg, hn, hm, hsz, ht⟩
    · by_cases hs0 : s.size = 0
      · have e : v' = .slice none 0 0 := h4.2 ⟨rfl, hs0⟩
        exact .inl (by rw [e])
      · have hr2 := run_append_grow_src (P := Tryz.prog) w 258 9 ty 5 i0 (.int .u8 0) Tryz.underlying258 hi hz0 none 0 0 [] (run_firstCells_none w.drew i0.size 0 0 0) (.string s) s.size (Go.byteCells s) hS (by omega) (by omega) (growslice_fits (by omega) (by rw [hz2]; omega))
        rw [hr] at hr2
        injection hr2 with e1 e2
        exact .inr ⟨w.heap.size, by rw [e1]; rfl, Nat.le_refl _⟩
    · by_cases hroom : l.length + s.size ≤ cap
      · have hr2 := run_append_room_src (P := Tryz.prog) w 258 9 ty 5 i0 Tryz.underlying258 hi g 0 l.length cap (.string s) s.size (Go.byteCells s) hS hroom
          (fun j hj => by rw [byteCells_length] at hj; rw [cell_of_row w g _ cur 5 (0, 0) hg, Array.getElem?_eq_getElem (by rw [hz1]; omega)]; rfl)
          (fun j hj => frozen_of_row w g _ cur 5 hg)
        rw [hr] at hr2
        injection hr2 with e1 e2
        exact .inl (by rw [e1]; rfl)
      · have hr2 := run_append_grow_src (P := Tryz.prog) w 258 9 ty 5 i0 (.int .u8 0) Tryz.underlying258 hi hz0 (some ⟨g, 0, none⟩) l.length cap (cellsL l)
          (run_firstCells_some w.drew i0.size l.length ⟨g, 0, none⟩ l.length cap (cellsL l) (by rw [hz1, cellsL_len, Nat.mul_one]) (fun j u hu => World.ownsRow.cells hown (g := g) rfl j u hu))
          (.string s) s.size (Go.byteCells s) hS (by omega) (by omega) (growslice_fits (by omega) (by rw [hz2]; omega))
        rw [hr] at hr2
        injection hr2 with e1 e2
        exact .inr ⟨w.heap.size, by rw [e1]; rfl, Nat.le_refl _⟩
theorem wpList_app_str {w : World} {ops : Array Oper} {rest : List Oper} {o : Oper} {a : Act} {Q : Exit → Act → World → Prop} (hgd : o.guard = none) (sl x : Operand)
    (ho : o.op = .call { callee := .builtin .append, args := #[sl, x], argTypes := #[258, 9] })
    (v : Value) (l : List UInt8) (hs : a.eval sl = v) (hown : Own w v l) (s : ByteArray) (hx : a.eval x = .string s) (hsm : l.length + s.size ≤ 140737488355328)
    (h : ∀ v' w', Own w' v' (l ++ s.data.toList) → Onto w w' v v' → wpList Tryz.prog ops Q rest (a.put o.dst v') w') :
    wpList Tryz.prog ops Q (o :: rest) a w := by
  refine wpList_plain hgd fun K hK => ?_
  obtain ⟨v', w', hr, h2, h3⟩ := run_app_str (ty := o.type) hown s hsm
  unfold Oper.wp execOp
  simp only [ho, resolve, invoke, builtin, Sem.run_bind, Sem.run_pure, Result.andThen_ok, List.map_toArray, List.map_cons, List.map_nil, hs, hx, hr]
  exact hK _ _ (h v' w' h2 h3)
/-- A writer that holds l; or none. -/
def Wst (w : World) (p : Value) (l : List UInt8) : Prop :=
  p = .pointer none ∨ ∃ b v, p = .pointer (some ⟨b, 0, none⟩) ∧ w.cell? ⟨b, 0, none⟩ = some v ∧ w.frozen? ⟨b, 0, none⟩ = false ∧ Own w v l ∧ v.ownBlock ≠ some b
def blkOf : Value → Option Nat
  | .pointer (some a) => some a.block
  | _ => none
def rowOf (w : World) : Value → Option Nat
  | .pointer (some a) => (w.cell? a).bind Value.ownBlock
  | _ => none
/-- w' is w but for the writer's block, its row and new blocks; the row is the old one or a new block. -/
structure Wfr (w w' : World) (p : Value) : Prop where
  os : w'.os = w.os
  tape : w'.tape = w.tape
  output : w'.output = w.output
  size : w.heap.size ≤ w'.heap.size
  block : ∀ k, k < w.heap.size → blkOf p ≠ some k → rowOf w p ≠ some k → w'.heap[k]? = w.heap[k]?
  lies : rowOf w' p = rowOf w p ∨ ∃ g, rowOf w' p = some g ∧ w.heap.size ≤ g
theorem Wfr.refl (w : World) (p : Value) : Wfr w w p := ⟨rfl, rfl, rfl, Nat.le_refl _, fun _ _ _ _ => rfl, .inl rfl⟩
theorem Wfr.trans {w w1 w2 : World} {p : Value} (h : Wfr w w1 p) (k : Wfr w1 w2 p) : Wfr w w2 p := by
  have hs := h.size
  refine ⟨k.os.trans h.os, k.tape.trans h.tape, k.output.trans h.output, Nat.le_trans hs k.size, fun i hi h1 h2 => ?_, ?_⟩
  · rw [k.block i (by omega) h1 ?_, h.block i hi h1 h2]
    rcases h.lies with l | ⟨b, l, hb⟩
    · rw [l]; exact h2
    · rw [l]; intro e; cases e; omega
  · rcases k.lies with l' | ⟨b, l', hb⟩
    · rw [l']; exact h.lies
    · exact .inr ⟨b, l', by omega⟩
theorem Own.kept {w w' : World} {v : Value} {l : List UInt8} {row : Option Nat} (h : Own w v l) (hg : w.grownBy w' row) (hne : v.ownBlock = none ∨ v.ownBlock ≠ row) : Own w' v l := World.ownsRow.kept h hg hne
theorem Own.below {w w' : World} {v : Value} {l : List UInt8} (h : Own w v l) (hb : Below w.heap.size w w') : Own w' v l := by
  refine h.kept (row := none) ⟨hb.os, hb.tape, hb.output, hb.size, fun k hk _ => hb.block k hk⟩ ?_
  cases v.ownBlock <;> simp
theorem Wst.below {w w' : World} {p : Value} {l : List UInt8} (h : Wst w p l) (hb : Below w.heap.size w w') : Wst w' p l := by
  rcases h with h | ⟨b, v, rfl, hc, hf, ho, hne⟩
  · exact .inl h
  · have hlt : b < w.heap.size := block_lt_of_cell hc
    exact .inr ⟨b, v, rfl, (hb.cell (p := ⟨b, 0, none⟩) hlt).trans hc, (hb.frozen (p := ⟨b, 0, none⟩) hlt).trans hf, ho.below hb, hne⟩
theorem Wfr.of_below {w w' : World} {p : Value} {l : List UInt8} (h : Wst w p l) (hb : Below w.heap.size w w') : Wfr w w' p := by
  refine ⟨hb.os, hb.tape, hb.output, hb.size, fun k hk _ _ => hb.block k hk, .inl ?_⟩
  rcases h with rfl | ⟨b, v, rfl, hc, hf, ho, hne⟩
  · rfl
  · have hlt : b < w.heap.size := block_lt_of_cell hc
    simp only [rowOf]
    rw [hb.cell (p := ⟨b, 0, none⟩) hlt]
theorem setCell_grown (w : World) (b i : Nat) (v : Value) : w.grownBy (w.setCell ⟨b, i, none⟩ v) (some b) :=
  ⟨rfl, rfl, rfl, by simp [World.setCell], fun k _ hk => Below.heap_setCell _ _ _ _ (fun e => hk (by simp [e]))⟩
/-- What is written back into the writer's field. -/
theorem Wst.stored {w w1 : World} {b : Nat} {v v' : Value} {l : List UInt8} (hc : w.cell? ⟨b, 0, none⟩ = some v) (hf : w.frozen? ⟨b, 0, none⟩ = false) (hne : v.ownBlock ≠ some b) (ho : Own w1 v' l) (hon : Onto w w1 v v') :
    w1.cell? ⟨b, 0, none⟩ = some v ∧ w1.frozen? ⟨b, 0, none⟩ = false ∧ Wst (w1.setCell ⟨b, 0, none⟩ v') (.pointer (some ⟨b, 0, none⟩)) l ∧ Wfr w (w1.setCell ⟨b, 0, none⟩ v') (.pointer (some ⟨b, 0, none⟩)) := by
  have hlt : b < w.heap.size := block_lt_of_cell hc
  have hb : w1.heap[b]? = w.heap[b]? := hon.grown.block b hlt (fun e => hne e.symm)
  have h1 : w1.cell? ⟨b, 0, none⟩ = some v := (World.cell?_of_block hb).trans hc
  have h2 : w1.frozen? ⟨b, 0, none⟩ = false := (World.frozen?_of_block hb).trans hf
  have hne' : v'.ownBlock ≠ some b := by
    rcases hon.lies with e | ⟨g, e, hg⟩
    · rw [e]; exact hne
    · rw [e]; intro e'; cases e'; omega
  have h3 : (w1.setCell ⟨b, 0, none⟩ v').cell? ⟨b, 0, none⟩ = some v' := World.cell?_setCell_same _ _ _ h1
  refine ⟨h1, h2, .inr ⟨b, v', rfl, h3, by rw [World.frozen?_setCell]; exact h2, ho.kept (setCell_grown w1 b 0 v') (.inr hne'), hne'⟩, ?_⟩
  refine ⟨hon.grown.os, hon.grown.tape, hon.grown.output, by have := hon.grown.size; simpa [World.setCell] using this, fun k hk a1 a2 => ?_, ?_⟩
  · simp only [rowOf, hc, Option.bind_some] at a2
    have a1' : k ≠ b := fun e => a1 (by simp [blkOf, e])
    rw [Below.heap_setCell _ _ _ _ a1']
    exact hon.grown.block k hk (fun e => a2 e.symm)
  · simp only [rowOf, hc, h3, Option.bind_some]
    exact hon.lies
section
set_option maxRecDepth 10000
theorem number_any (p : Value) (l : List UInt8) (n k : Nat) (K : Int) (hK : K = k) (hn : U64 n) (w : World) (hk : k ≤ 8) (hl : l.length ≤ 35184372088832) (h : Wst w p l) :
    Calls Tryz.prog 209 #[p, .int .u64 n, .int .i64 K] w fun e w' => e = .returned (.tuple #[]) ∧ Wst w' p (l ++ lowL n k) ∧ Wfr w w' p := by
  subst hK
  rcases h with rfl | ⟨b, v, rfl, hc, hf, ho, hne⟩
  · go_enter Tryz.func209, Tryz.ntmps209
    go_wp2
    go_end0
    exact ⟨rfl, .inl rfl, Wfr.refl _ _⟩
  · go_enter Tryz.func209, Tryz.ntmps209
    go_wp2_with (go_at_call 281; refine (putLow_any v l n k k rfl hn _ hk (by omega) ho).mono ?_; rintro e w1 ⟨v', rfl, ho1, hon⟩; obtain ⟨ao, nn, c, rfl, _⟩ := ho1.form; obtain ⟨c1, f1, hw1, hw2⟩ := Wst.stored hc hf hne ho1 hon)
    go_end0
    exact ⟨rfl, hw1, hw2⟩
theorem wByte (p : Value) (l : List UInt8) (n : Nat) (hn : n < 256) (w : World) (hl : l.length ≤ 35184372088832) (h : Wst w p l) :
    Calls Tryz.prog 327 #[p, .int .u8 n] w fun e w' => e = .returned (.tuple #[]) ∧ Wst w' p (l ++ lowL n 1) ∧ Wfr w w' p := by
  go_enter Tryz.func327, Tryz.ntmps327
  go_wp2_with (go_at_call 209; refine (number_any p l n 1 1 rfl (by unfold U64; omega) _ (by omega) hl h).mono ?_; rintro e w1 ⟨rfl, hw1, hw2⟩)
  go_end0
  exact ⟨rfl, hw1, hw2⟩
theorem wU32 (p : Value) (l : List UInt8) (n : Nat) (hn : n < 4294967296) (w : World) (hl : l.length ≤ 35184372088832) (h : Wst w p l) :
    Calls Tryz.prog 127 #[p, .int .u32 n] w fun e w' => e = .returned (.tuple #[]) ∧ Wst w' p (l ++ lowL n 4) ∧ Wfr w w' p := by
  go_enter Tryz.func127, Tryz.ntmps127
  go_wp2_with (go_at_call 209; refine (number_any p l n 4 4 rfl (by unfold U64; omega) _ (by omega) hl h).mono ?_; rintro e w1 ⟨rfl, hw1, hw2⟩)
  go_end0
  exact ⟨rfl, hw1, hw2⟩
theorem wU64 (p : Value) (l : List UInt8) (n : Nat) (hn : U64 n) (w : World) (hl : l.length ≤ 35184372088832) (h : Wst w p l) :
    Calls Tryz.prog 255 #[p, .int .u64 n] w fun e w' => e = .returned (.tuple #[]) ∧ Wst w' p (l ++ lowL n 8) ∧ Wfr w w' p := by
  go_enter Tryz.func255, Tryz.ntmps255
  go_wp2_with (go_at_call 209; refine (number_any p l n 8 8 rfl hn _ (by omega) hl h).mono ?_; rintro e w1 ⟨rfl, hw1, hw2⟩)
  go_end0
  exact ⟨rfl, hw1, hw2⟩
theorem wBytes (p : Value) (l : List UInt8) (s : ByteArray) (hs : p = .pointer none ∨ s.size ≤ 35184372088832) (w : World) (hl : l.length ≤ 35184372088932) (h : Wst w p l) :
    Calls Tryz.prog 167 #[p, .string s] w fun e w' => e = .returned (.tuple #[]) ∧ Wst w' p (l ++ s.data.toList) ∧ Wfr w w' p := by
  rcases h with rfl | ⟨b, v, rfl, hc, hf, ho, hne⟩
  · go_enter Tryz.func167, Tryz.ntmps167
    go_wp2
    go_end0
    exact ⟨rfl, .inl rfl, Wfr.refl _ _⟩
  · have hs' : s.size ≤ 35184372088832 := by simpa using hs
    clear hs
    go_enter Tryz.func167, Tryz.ntmps167
    go_wp2_with (at_builtin; refine wpList_app_str rfl _ _ rfl v l rfl ho s rfl (by omega) ?_; intro v' w1 ho1 hon; obtain ⟨ao, nn, c, rfl, _⟩ := ho1.form; obtain ⟨c1, f1, hw1, hw2⟩ := Wst.stored hc hf hne ho1 hon)
    go_end0
    exact ⟨rfl, hw1, hw2⟩
theorem newWriter_any (w : World) : Calls Tryz.prog 126 #[] w fun e w' => e = .returned (.pointer (some ⟨w.heap.size, 0, none⟩)) ∧ w' = w.alloc (.cells #[.slice none 0 0] 340) := by
  go_enter Tryz.func126, Tryz.ntmps126
  go_wp2
  go_ret
  exact ⟨rfl, rfl⟩
theorem wLen (b : Nat) (l : List UInt8) (w : World) (h : Wst w (.pointer (some ⟨b, 0, none⟩)) l) : Calls Tryz.prog 287 #[.pointer (some ⟨b, 0, none⟩)] w fun e w' => e = .returned (.int .i64 l.length) ∧ w' = w := by
  rcases h with h | ⟨b', v, hp, hc, hf, ho, hne⟩
  · cases h
  · cases hp
    obtain ⟨ao, n, c, rfl, hn⟩ := ho.form
    have hn' := hn.out
    subst hn'
    clear ho hne hn
    go_enter Tryz.func287, Tryz.ntmps287
    go_wp2
    go_ret
    exact ⟨rfl, rfl⟩
end
def txt (l : List UInt8) : ByteArray := ⟨l.toArray⟩
section
set_option maxRecDepth 10000
theorem wText (b : Nat) (l : List UInt8) (w : World) (h : Wst w (.pointer (some ⟨b, 0, none⟩)) l) : Calls Tryz.prog 128 #[.pointer (some ⟨b, 0, none⟩)] w fun e w' => e = .returned (.string (txt l)) ∧ w' = w := by
  rcases h with h | ⟨b', v, hp, hc, hf, ho, hne⟩
  · cases h
  · cases hp
    have hcv := conv_own ho
    go_enter Tryz.func128, Tryz.ntmps128
    go_wp2
    go_ret
    exact ⟨rfl, rfl⟩
end
theorem Wst.new (w : World) : Wst (w.alloc (.cells #[.slice none 0 0] 340)) (.pointer (some ⟨w.heap.size, 0, none⟩)) [] := by
  refine .inr ⟨w.heap.size, .slice none 0 0, rfl, ?_, ?_, Own.nil _, by simp [Value.ownBlock]⟩
  · rw [cell_of_row _ _ 0 _ _ _ (heap_alloc_new w _)]; rfl
  · exact frozen_of_row _ _ 0 _ _ (heap_alloc_new w _)
/-- A reader of s at block b. -/
def Rst (w : World) (b : Nat) (s : ByteArray) (p err : Int) : Prop := w.heap[b]? = some (.cells #[.string s, .int .i64 p, .int .i64 err] 404 (0, 0))
section
variable {w : World} {b : Nat} {s : ByteArray} {p err : Int}
theorem Rst.lt (h : Rst w b s p err) : b < w.heap.size := by
  rcases Nat.lt_or_ge b w.heap.size with hlt | hge
  · exact hlt
  · unfold Rst at h; rw [Array.getElem?_eq_none hge] at h; cases h
theorem Rst.c0 (h : Rst w b s p err) : w.cell? ⟨b, 0, none⟩ = some (.string s) := by rw [cell_of_row w b 0 _ _ _ h]; rfl
theorem Rst.c1 (h : Rst w b s p err) : w.cell? ⟨b, 1, none⟩ = some (.int .i64 p) := by rw [cell_of_row w b 1 _ _ _ h]; rfl
theorem Rst.c2 (h : Rst w b s p err) : w.cell? ⟨b, 2, none⟩ = some (.int .i64 err) := by rw [cell_of_row w b 2 _ _ _ h]; rfl
theorem Rst.f (h : Rst w b s p err) (i : Nat) : w.frozen? ⟨b, i, none⟩ = false := frozen_of_row w b i _ _ h
theorem Rst.set1 (h : Rst w b s p err) (q : Int) : Rst (w.setCell ⟨b, 1, none⟩ (.int .i64 q)) b s q err := heap_setCell_same w b 1 _ _ _ h
theorem Rst.set2 (h : Rst w b s p err) (q : Int) : Rst (w.setCell ⟨b, 2, none⟩ (.int .i64 q)) b s p q := heap_setCell_same w b 2 _ _ _ h
theorem Rst.drewN (h : Rst w b s p err) (n : Nat) : Rst (w.drewN n) b s p err := h
theorem Rst.below {w' : World} (h : Rst w b s p err) (hb : Below w.heap.size w w') : Rst w' b s p err := (hb.block b h.lt).trans h
end
/-- What is taken: the place, the error, the bytes. -/
def rtake (s : ByteArray) (p err n : Int) : Int × Int × ByteArray :=
  if err ≠ 0 then (p, err, ⟨#[]⟩) else if n < 0 then (p, 1, ⟨#[]⟩) else if (s.size : Int) - p < n then (p, 4, ⟨#[]⟩) else (p + n, 0, s.extract p.toNat (p + n).toNat)
theorem rtake_inv (s : ByteArray) (p err n : Int) (h0 : 0 ≤ p) (h1 : p ≤ s.size) : 0 ≤ (rtake s p err n).1 ∧ (rtake s p err n).1 ≤ s.size := by
  unfold rtake
  split
  · exact ⟨h0, h1⟩
  · split
    · exact ⟨h0, h1⟩
    · split
      · exact ⟨h0, h1⟩
      · constructor
        · show 0 ≤ p + n; omega
        · show p + n ≤ s.size; omega
theorem rtake_size (s : ByteArray) (p err : Int) (n : Nat) (N : Int) (hN : N = n) (h0 : 0 ≤ p) : (rtake s p err N).2.2.size ≤ n := by
  subst hN
  have hz : (⟨#[]⟩ : ByteArray).size = 0 := rfl
  unfold rtake
  split
  · show (⟨#[]⟩ : ByteArray).size ≤ n; omega
  · split
    · show (⟨#[]⟩ : ByteArray).size ≤ n; omega
    · split
      · show (⟨#[]⟩ : ByteArray).size ≤ n; omega
      · show (s.extract p.toNat (p + n).toNat).size ≤ n
        simp; omega
theorem leN_lt' (l : List UInt8) (k m : Nat) (h : l.length ≤ k) (hm : m = 256 ^ k) : leN l < m := by
  subst hm
  exact Nat.lt_of_lt_of_le (leN_lt l) (Nat.pow_le_pow_right (by decide) h)
theorem newReader_any (s : ByteArray) (w : World) : Calls Tryz.prog 201 #[.string s] w fun e w' => e = .returned (.pointer (some ⟨w.heap.size, 0, none⟩)) ∧ w' = w.alloc (.cells #[.string s, .int .i64 0, .int .i64 0] 404) := by
  go_enter Tryz.func201, Tryz.ntmps201
  go_wp2
  go_ret
  exact ⟨rfl, rfl⟩
section
variable (b : Nat) (s : ByteArray) (w : World)
set_option maxRecDepth 10000
theorem rErr (p err : Int) (h : Rst w b s p err) : Calls Tryz.prog 328 #[.pointer (some ⟨b, 0, none⟩)] w fun e w' => e = .returned (.int .i64 err) ∧ w' = w := by
  have h2 := h.c2
  go_enter Tryz.func328, Tryz.ntmps328
  go_wp2
  go_ret
  exact ⟨rfl, rfl⟩
theorem rLeft (p err : Int) (h : Rst w b s p err) (hs : s.size ≤ maxLen) (h0 : 0 ≤ p) (h1 : p ≤ s.size) : Calls Tryz.prog 334 #[.pointer (some ⟨b, 0, none⟩)] w fun e w' => e = .returned (.int .i64 ((s.size : Int) - p)) ∧ ∃ n, w' = w.drewN n := by
  unfold maxLen at hs
  have hc0 := h.c0
  have hc1 := h.c1
  go_enter Tryz.func334, Tryz.ntmps334
  go_wp2
  go_quiet (fail)
  go_wp2
  go_ret
  exact ⟨rfl, _, rfl⟩
theorem rTake (p err n : Int) (h : Rst w b s p err) (hs : s.size ≤ maxLen) (h0 : 0 ≤ p) (h1 : p ≤ s.size) (hn : 0 ≤ n) (hn2 : n ≤ 9223372036854775807) : Calls Tryz.prog 274 #[.pointer (some ⟨b, 0, none⟩), .int .i64 n] w fun e w' => e = .returned (.string (rtake s p err n).2.2) ∧ Rst w' b s (rtake s p err n).1 (rtake s p err n).2.1 ∧ Rfr b w w' := by
  by_cases he : err = 0
  · subst he
    by_cases hc : (s.size : Int) - p < n
    · have hr : rtake s p 0 n = (p, 4, ⟨#[]⟩) := by unfold rtake; rw [if_neg (by simp), if_neg (by omega), if_pos hc]
      rw [hr]
      clear hr
      go_enter Tryz.func274, Tryz.ntmps274
      go_wp2_with fail
      refine (rErr b s _ p 0 h).mono ?_
      rintro e w1 ⟨rfl, rfl⟩
      go_wp2_with fail
      refine (rLeft b s _ p 0 h hs h0 h1).mono ?_
      rintro e w2 ⟨rfl, nq, rfl⟩
      have h2 := (h.drewN nq).c2
      have hf := (h.drewN nq).f 2
      go_wp2
      go_ret
      exact ⟨rfl, (h.drewN nq).set2 _, (Rfr.drewN b _ nq).trans (Rfr.setCell _ _ _ _)⟩
    · have hr : rtake s p 0 n = (p + n, 0, s.extract p.toNat (p + n).toNat) := by unfold rtake; rw [if_neg (by simp), if_neg (by omega), if_neg hc]
      rw [hr]
      clear hr
      unfold maxLen at hs
      obtain ⟨p, rfl⟩ := Int.eq_ofNat_of_zero_le h0
      obtain ⟨n, rfl⟩ := Int.eq_ofNat_of_zero_le hn
      have hpn : (p : Int) + (n : Int) ≤ s.size := by omega
      go_enter Tryz.func274, Tryz.ntmps274
      go_wp2_with fail
      refine (rErr b s _ p 0 h).mono ?_
      rintro e w1 ⟨rfl, rfl⟩
      go_wp2_with fail
      refine (rLeft b s _ p 0 h (by unfold maxLen; omega) h0 h1).mono ?_
      rintro e w2 ⟨rfl, nq, rfl⟩
      have hc0 := h.c0
      have hc1 := h.c1
      have hf := h.f 1
      have hadd : IntKind.i64.wrap ((p : Int) + (n : Int)) = (p : Int) + (n : Int) := wrap_small _ (by omega) (by omega)
      go_wp2
      go_quiet (fail)
      go_wp2
      go_ret
      have e1 : ((p : Int) + (n : Int)).toNat = p + n := by omega
      exact ⟨by rw [e1]; rfl, (h.drewN _).set1 _, (Rfr.drewN b _ _).trans (Rfr.setCell _ _ _ _)⟩
  · have hr : rtake s p err n = (p, err, ⟨#[]⟩) := by unfold rtake; rw [if_pos he]
    rw [hr]
    have he' : (err != 0) = true := by simp [he]
    clear he hr
    go_enter Tryz.func274, Tryz.ntmps274
    go_wp2_with (go_at_call 328; refine (rErr b s _ p err h).mono ?_; rintro e w1 ⟨rfl, rfl⟩)
    go_ret
    exact ⟨rfl, h, Rfr.refl _ _⟩
theorem rU32 (p err : Int) (h : Rst w b s p err) (hs : s.size ≤ maxLen) (h0 : 0 ≤ p) (h1 : p ≤ s.size) : Calls Tryz.prog 203 #[.pointer (some ⟨b, 0, none⟩)] w fun e w' => e = .returned (.int .u32 (leN (rtake s p err 4).2.2.data.toList)) ∧ Rst w' b s (rtake s p err 4).1 (rtake s p err 4).2.1 ∧ Rfr b w w' := by
  have hz := rtake_size s p err 4 4 rfl h0
  have hg : leN (rtake s p err 4).2.2.data.toList < 4294967296 := leN_lt' _ 4 _ (by simpa using hz) (by decide)
  have ht := fun w h => rTake b s w p err 4 h hs h0 h1 (by decide) (by decide)
  have HT := hide ht
  clear ht
  generalize rtake s p err 4 = R at *
  have hmod : (leN R.2.2.data.toList : Int) % 4294967296 = leN R.2.2.data.toList := by omega
  go_enter Tryz.func203, Tryz.ntmps203
  go_wp2_with (first | (go_at_call 274; refine (HT.out _ h).mono ?_; rintro e w1 ⟨rfl, hr, hf⟩) | (go_at_call 275; refine (lowFirst_any _ _ (by omega)).mono ?_; rintro e w2 ⟨rfl, rfl⟩))
  go_ret
  exact ⟨rfl, hr, hf⟩
end
end Go.Proofs.YtppooipamibhoaaGreatDoor
namespace Go.Proofs.YtppooipamibhoaaGreatDoor
open Go.RowKit
open Go.Deep
section
set_option maxRecDepth 10000
set_option maxHeartbeats 1000000
theorem twice_any (s : ByteArray) (hs : s.size < 2305843009213693000) (w : World) (hK : Kg w) : Calls Tryz.prog 99 #[.string s] w fun e w' => e = .returned (.agg (hc (digest (digest s.data.toList)))) ∧ Below w.heap.size w w' := by
  have HS := hide fun W hW => sum_any s hs W hW
  have hdl := digest_len s.data.toList
  generalize digest s.data.toList = D at *
  have hDz : (⟨D.toArray⟩ : ByteArray).size = 32 := by show D.toArray.size = 32; rw [List.size_toArray, hdl]
  have HT := hide fun W hW => sum_any ⟨D.toArray⟩ (by rw [hDz]; omega) W hW
  rw [show (⟨D.toArray⟩ : ByteArray).data.toList = D from rfl] at HT
  have hel := digest_len D
  generalize digest D = E at *
  have HK := hide hK
  have K2 := hide (hK.next ((Below.refl w.heap.size w).alloc (Nat.le_refl _) (.cells (hc zeros) 46)))
  clear hK hDz
  go_enter Tryz.func99, Tryz.ntmps99
  go_wp2_with (first | refine wpList_allocA A25 rfl rfl ?_ | (go_at_call_of 182 (Value.string s); refine (HS.out _ K2.out).mono ?_; rintro e w1 ⟨rfl, b1⟩; obtain ⟨n1, B1, hlt⟩ := sb_mid b1 (Nat.le_refl _); clear b1 hlt; have hcv := conv_row (w1.alloc (.cells (hc D) 46)) w1.heap.size D hdl 46 (heap_alloc_last _ _); obtain ⟨n2, B2⟩ := sb_last n1.out B1.out ((Below.refl w1.heap.size w1).alloc (Nat.le_refl _) (.cells (hc D) 46)); clear n1 B1) | refine wpList_store_newA A25 rfl _ _ rfl _ rfl (hc D) (by rw [hc_size, hdl]) (hc_one _) rfl rfl ?_ | (go_at_call_of 182 (Value.string ⟨D.toArray⟩); refine (HT.out _ (HK.out.next B2.out)).mono ?_; rintro e w3 ⟨rfl, b3⟩; obtain ⟨n3, B3⟩ := sb_last n2.out B2.out b3; clear b3) | refine wpList_storeA A25 rfl _ _ rfl _ (hc E) (by rw [hc_size, hel]) (hc_one _) rfl rfl (hc zeros) (by rw [hc_size, zeros_len]) 46 n3.out ?_)
  exact bodyPost_ret (v := .agg (hc E)) (resA A25 Tryz.results99 _ _ w.heap.size 46 _ (by rw [hc_size, hel]) rfl (setRow_heap _ _ _ _ _ _ n3.out)) rfl ⟨rfl, below_setRow B3.out (Nat.le_refl _) _⟩
theorem rtwice_any (s : ByteArray) (hs : s.size < 2305843009213693000) (w : World) : Calls Tryz.prog 129 #[.string s] w fun e w' => e = .returned (.agg (hc (digest (digest s.data.toList)))) ∧ Below w.heap.size w w' := by
  have HS := hide fun W => rsum_any s hs W
  have hdl := digest_len s.data.toList
  generalize digest s.data.toList = D at *
  have hDz : (⟨D.toArray⟩ : ByteArray).size = 32 := by show D.toArray.size = 32; rw [List.size_toArray, hdl]
  have HT := hide fun W => rsum_any ⟨D.toArray⟩ (by rw [hDz]; omega) W
  rw [show (⟨D.toArray⟩ : ByteArray).data.toList = D from rfl] at HT
  have hel := digest_len D
  generalize digest D = E at *
  clear hDz
  go_enter Tryz.func129, Tryz.ntmps129
  go_wp2_with (first | refine wpList_allocA A24 rfl rfl ?_ | (go_at_call_of 210 (Value.string s); refine (HS.out _).mono ?_; rintro e w1 ⟨rfl, b1⟩; obtain ⟨n1, B1, hlt⟩ := sb_mid b1 (Nat.le_refl _); clear b1 hlt; have hcv := conv_row (w1.alloc (.cells (hc D) 45)) w1.heap.size D hdl 45 (heap_alloc_last _ _); obtain ⟨n2, B2⟩ := sb_last n1.out B1.out ((Below.refl w1.heap.size w1).alloc (Nat.le_refl _) (.cells (hc D) 45)); clear n1 B1) | refine wpList_store_newA A24 rfl _ _ rfl _ rfl (hc D) (by rw [hc_size, hdl]) (hc_one _) rfl rfl ?_ | (go_at_call_of 210 (Value.string ⟨D.toArray⟩); refine (HT.out _).mono ?_; rintro e w3 ⟨rfl, b3⟩; obtain ⟨n3, B3⟩ := sb_last n2.out B2.out b3; clear b3) | refine wpList_storeA A24 rfl _ _ rfl _ (hc E) (by rw [hc_size, hel]) (hc_one _) rfl rfl (hc zeros) (by rw [hc_size, zeros_len]) 45 n3.out ?_)
  exact bodyPost_ret (v := .agg (hc E)) (resA A24 Tryz.results129 _ _ w.heap.size 45 _ (by rw [hc_size, hel]) rfl (setRow_heap _ _ _ _ _ _ n3.out)) rfl ⟨rfl, below_setRow B3.out (Nat.le_refl _) _⟩
end
end Go.Proofs.YtppooipamibhoaaGreatDoor
