/- A hasher in memory: its cells, and the mathematics of what was written. The contract of Hasher.Write. -/
import Derived.Test.YthhojpplbhnnfaaGreatDoorX03
namespace Go.Proofs.YthhojpplbhnnfaaGreatDoor
open Go.RowKit
open Go.Deep
/-- The state behind the first k blocks of a text. -/
def stN (t : List UInt8) : Nat → St
  | 0 => first
  | k + 1 => step (stN t k) ((t.drop (64 * k)).take 64)
theorem stN_app (t u : List UInt8) (k : Nat) (h : 64 * k ≤ t.length) : stN (t ++ u) k = stN t k := by
  induction k with
  | zero => rfl
  | succ k ih =>
    rw [stN, stN, ih (by omega), List.drop_append_of_le_length (by omega), List.take_append_of_le_length (by rw [List.length_drop]; omega)]
/-- What is left of a text behind its whole blocks. -/
def rest (t : List UInt8) : List UInt8 := t.drop (64 * (t.length / 64))
theorem rest_len (t : List UInt8) : (rest t).length = t.length % 64 := by
  unfold rest
  rw [List.length_drop]
  omega
/-- The tail behind a copy. -/
def tl2 (tl : List UInt8) (r : Nat) (q : List UInt8) : List UInt8 := tl.take r ++ q ++ tl.drop (r + q.length)
theorem tl2_len (tl : List UInt8) (r : Nat) (q : List UInt8) (h : tl.length = 64) (hr : r + q.length ≤ 64) : (tl2 tl r q).length = 64 := by
  simp only [tl2, List.length_append, List.length_take, List.length_drop, h]
  omega
theorem more_div (t q : List UInt8) (h : t.length % 64 + q.length < 64) : (t ++ q).length / 64 = t.length / 64 := by
  rw [List.length_append]; omega
theorem more_rest (t q tl : List UInt8) (h : t.length % 64 + q.length < 64) (hl : tl.length = 64) (ht : tl.take (t.length % 64) = rest t) :
    (tl2 tl (t.length % 64) q).take ((t ++ q).length % 64) = rest (t ++ q) := by
  have e : (t ++ q).length % 64 = t.length % 64 + q.length := by rw [List.length_append]; omega
  unfold rest
  rw [more_div t q h, e, List.drop_append_of_le_length (by omega), show t.drop (64 * (t.length / 64)) = rest t from rfl, ← ht, tl2]
  rw [List.take_append_of_le_length (by simp; omega), List.take_of_length_le (by simp; omega)]
theorem more_st (t q : List UInt8) (h : t.length % 64 + q.length < 64) : stN (t ++ q) ((t ++ q).length / 64) = stN t (t.length / 64) := by
  rw [more_div t q h, stN_app t q _ (by omega)]
theorem full_st (t q tl : List UInt8) (h : t.length % 64 + q.length = 64) (hl : tl.length = 64) (ht : tl.take (t.length % 64) = rest t) :
    stN (t ++ q) ((t ++ q).length / 64) = step (stN t (t.length / 64)) (tl2 tl (t.length % 64) q) := by
  have e : (t ++ q).length / 64 = t.length / 64 + 1 := by rw [List.length_append]; omega
  rw [e, stN, stN_app t q _ (by omega)]
  congr 1
  rw [List.drop_append_of_le_length (by omega), show t.drop (64 * (t.length / 64)) = rest t from rfl, ← ht, tl2, List.drop_of_length_le (by omega), List.append_nil]
  rw [List.take_of_length_le (by simp; omega)]
theorem full_mod (t q : List UInt8) (h : t.length % 64 + q.length = 64) : (t ++ q).length % 64 = 0 := by
  rw [List.length_append]; omega
theorem rest_nil (t : List UInt8) (h : t.length % 64 = 0) : rest t = [] := by
  apply List.eq_nil_of_length_eq_zero
  rw [rest_len, h]

/-! ### Its cells -/
/-- The cells of a hasher. -/
def hF (s : St) (tl : List UInt8) (n j : Nat) : Value := if j < 8 then .int .u32 ((s.at j).toNat : Int) else if j < 72 then .int .u8 (by8 tl (j - 8) : Int) else .int .u64 (n : Int)
def hsA (s : St) (tl : List UInt8) (n : Nat) : Array Value := (s.list.map (fun x => Value.int .u32 (x.toNat : Int)) ++ cellsL tl ++ [Value.int .u64 (n : Int)]).toArray
theorem hsA_size (s : St) (tl : List UInt8) (n : Nat) (h : tl.length = 64) : (hsA s tl n).size = 73 := by
  simp [hsA, cellsL_len, h, list_len]
theorem hsA_one (s : St) (tl : List UInt8) (n : Nat) : (hsA s tl n).all (·.oneCell') = true := by
  rw [Array.all_eq_true_iff_forall_mem]
  intro v hv
  simp only [hsA, cellsL, List.mem_toArray, List.mem_append, List.mem_map, List.mem_singleton] at hv
  rcases hv with (⟨b, _, rfl⟩ | ⟨b, _, rfl⟩) | rfl <;> rfl
theorem hsA_at (s : St) (tl : List UInt8) (n : Nat) (h : tl.length = 64) (j : Nat) (hj : j < 73) : (hsA s tl n)[j]? = some (hF s tl n j) := by
  unfold hsA hF
  rw [List.getElem?_toArray]
  by_cases h1 : j < 8
  · rw [if_pos h1, List.append_assoc, List.getElem?_append_left (by simp [list_len]; exact h1), List.getElem?_map]
    have : s.list[j]? = some (s.at j) := by
      rw [St.at, List.getD_eq_getElem?_getD, List.getElem?_eq_getElem (by rw [list_len]; exact h1)]; rfl
    rw [this]; rfl
  · by_cases h2 : j < 72
    · rw [if_neg h1, if_pos h2, List.getElem?_append_left (by simp [list_len, cellsL_len, h]; omega), List.getElem?_append_right (by simp [list_len]; omega)]
      simp only [List.length_map, list_len]
      have := hc_at tl (j - 8) (by omega)
      simpa [hc] using this
    · have : j = 72 := by omega
      subst this
      rw [if_neg h1, if_neg h2, List.getElem?_append_right (by simp [list_len, cellsL_len, h])]
      simp [list_len, cellsL_len, h]
/-- A hasher at block b. -/
def Hst (w : World) (b : Nat) (s : St) (tl : List UInt8) (n : Nat) : Prop := w.rowIs b 212 73 (hF s tl n)
theorem Hst.lt {w : World} {b : Nat} {s : St} {tl : List UInt8} {n : Nat} (h : Hst w b s tl n) : b < w.heap.size := World.rowIs.lt h
theorem Hst.of_block {w w' : World} {b : Nat} {s : St} {tl : List UInt8} {n : Nat} (h : Hst w b s tl n) (e : w'.heap[b]? = w.heap[b]?) : Hst w' b s tl n := World.rowIs.of_block h e
theorem Hst.below {w w' : World} {b : Nat} {s : St} {tl : List UInt8} {n : Nat} (h : Hst w b s tl n) (hb : Below w.heap.size w w') : Hst w' b s tl n := h.of_block (hb.block b h.lt)
theorem Hst.long {w : World} {b : Nat} {s : St} {tl : List UInt8} {n : Nat} (h : Hst w b s tl n) : w.cell? ⟨b, 72, none⟩ = some (.int .u64 (n : Int)) := World.rowIs.cell h (by omega)
theorem Hst.frozen {w : World} {b : Nat} {s : St} {tl : List UInt8} {n : Nat} (h : Hst w b s tl n) (i : Nat) : w.frozen? ⟨b, i, none⟩ = false := World.rowIs.frozen h i
theorem Hst.heap {w : World} {b : Nat} {s : St} {tl : List UInt8} {n : Nat} (hl : tl.length = 64) (h : Hst w b s tl n) : w.heap[b]? = some (.cells (hsA s tl n) 212 (0, 0)) :=
  of_row (hsA_size s tl n hl) h (fun i hi => hsA_at s tl n hl i hi)
theorem Hst.of_heap {w : World} {b : Nat} {s : St} {tl : List UInt8} {n : Nat} (hl : tl.length = 64) (h : w.heap[b]? = some (.cells (hsA s tl n) 212 (0, 0))) : Hst w b s tl n :=
  row_of (hsA_size s tl n hl) h (fun i hi => hsA_at s tl n hl i hi)
theorem Hst.there {w : World} {b : Nat} {s : St} {tl : List UInt8} {n : Nat} (h : Hst w b s tl n) (o m : Nat) (hm : o + m ≤ 73) : w.there b o m := fun j hj => by
  have := World.rowIs.cell h (show o + j < 73 by omega)
  exact ⟨by rw [this]; rfl, h.frozen _⟩
theorem Hst.range31 {w : World} {b : Nat} {s : St} {tl : List UInt8} {n : Nat} (h : Hst w b s tl n) : w.rangeAt b 0 (s.list.map fun x => Value.int .u32 (x.toNat : Int)) := fun j v hv => by
  rw [List.getElem?_map] at hv
  have hj : j < 8 := by
    rcases Nat.lt_or_ge j 8 with h' | h'
    · exact h'
    · rw [List.getElem?_eq_none (by rw [list_len]; omega)] at hv; cases hv
  have := World.rowIs.cell h (show j < 73 by omega)
  rw [Nat.zero_add, this]
  have e : s.list[j]? = some (s.at j) := by
    rw [St.at, List.getD_eq_getElem?_getD, List.getElem?_eq_getElem (by rw [list_len]; exact hj)]; rfl
  rw [e] at hv
  simpa [hF, hj] using hv
theorem Hst.range35 {w : World} {b : Nat} {s : St} {tl : List UInt8} {n : Nat} (hl : tl.length = 64) (h : Hst w b s tl n) : w.rangeAt b 8 (cellsL tl) := fun j v hv => by
  have hj : j < 64 := by
    rcases Nat.lt_or_ge j 64 with h' | h'
    · exact h'
    · rw [List.getElem?_eq_none (by rw [cellsL_len]; omega)] at hv; cases hv
  have := World.rowIs.cell h (show 8 + j < 73 by omega)
  rw [this]
  have e := hc_at tl j (by omega)
  have e2 : (hc tl)[j]? = (cellsL tl)[j]? := by simp [hc]
  rw [e2, hv] at e
  rw [e]
  simp [hF, show 8 + j < 72 by omega]
/-- The loads and stores of a hasher's parts, under names that the walk does not open. -/
def ld31 (x : Value) : Sem Value := Instr.loadAt 208 x
theorem ld31_eq (x : Value) : Instr.loadAt 208 x = ld31 x := rfl
def ld35 (x : Value) : Sem Value := Instr.loadAt 210 x
theorem ld35_eq (x : Value) : Instr.loadAt 210 x = ld35 x := rfl
def ld72 (x : Value) : Sem Value := Instr.loadAt 212 x
theorem ld72_eq (x : Value) : Instr.loadAt 212 x = ld72 x := rfl
def sv31 (x y : Value) : Sem Unit := Instr.storeAt 208 x y
theorem sv31_eq (x y : Value) : Instr.storeAt 208 x y = sv31 x y := rfl
theorem Hst.ld31 {w : World} {b : Nat} {s : St} {tl : List UInt8} {n : Nat} (h : Hst w b s tl n) : (ld31 (.pointer (some ⟨b, 0, none⟩))).run Tryz.prog w = .ok (.agg (uc s.list)) w :=
  run_loadAt_mid w b 0 208 _ _ h.range31 Tryz.underlying208 rfl (by kernel_rfl)
theorem Hst.ld35 {w : World} {b : Nat} {s : St} {tl : List UInt8} {n : Nat} (hl : tl.length = 64) (h : Hst w b s tl n) : (ld35 (.pointer (some ⟨b, 8, none⟩))).run Tryz.prog w = .ok (.agg (hc tl)) w :=
  run_loadAt_mid w b 8 210 _ _ (h.range35 hl) Tryz.underlying210 rfl (by rw [A35.info, cellsL_len, hl])
theorem A72 : Arr 212 73 (hsA ⟨0, 0, 0, 0, 0, 0, 0, 0⟩ zeros64 0) := ⟨.inr ⟨_, Tryz.underlying212⟩, by kernel_rfl, fun w => by kernel_rfl, fun w => by kernel_rfl, hsA_size _ _ _ zeros64_len⟩
theorem Hst.ld72 {w : World} {b : Nat} {s : St} {tl : List UInt8} {n : Nat} (hl : tl.length = 64) (h : Hst w b s tl n) : (ld72 (.pointer (some ⟨b, 0, none⟩))).run Tryz.prog w = .ok (.agg (hsA s tl n)) w := by
  unfold YthhojpplbhnnfaaGreatDoor.ld72
  simp only [Instr.loadAt, Instr.sureAddr, Sem.run_bind, Sem.run_pure, Result.andThen]
  exact run_loadVar_row w b 212 212 (hsA s tl n) (0, 0) _ (h.heap hl) Tryz.underlying212 rfl (by rw [A72.info, hsA_size s tl n hl])
theorem Hst.sv31 {w : World} {b : Nat} {s : St} {tl : List UInt8} {n : Nat} (h : Hst w b s tl n) (s2 : St) : (sv31 (.pointer (some ⟨b, 0, none⟩)) (.agg (uc s2.list))).run Tryz.prog w = .ok () (w.setCells b 0 (uc s2.list).toList) :=
  run_storeAt_mid w b 0 208 (uc s2.list) (h.there 0 8 (by omega)) (by kernel_rfl) (uc_one _)
theorem Hst.set31 {w : World} {b : Nat} {s : St} {tl : List UInt8} {n : Nat} (h : Hst w b s tl n) (s2 : St) : Hst (w.setCells b 0 (uc s2.list).toList) b s2 tl n := by
  refine (rowIs_setCells (uc s2.list).toList 0 w _ h).congr (fun j hj => ?_)
  have e : (uc s2.list).toList.length = 8 := rfl
  rw [e]
  by_cases h1 : j < 8
  · have e3 : (uc s2.list).toList[j - 0]? = some (.int .u32 ((s2.at j).toNat : Int)) := by
      rw [Nat.sub_zero, Array.getElem?_toList]; exact st_at s2 j h1
    rw [if_pos (by omega), e3]
    simp [hF, h1]
  · rw [if_neg (by omega)]
    simp [hF, h1]
theorem Hst.setLong {w : World} {b : Nat} {s : St} {tl : List UInt8} {n : Nat} (h : Hst w b s tl n) (m : Nat) : Hst (w.setCell ⟨b, 72, none⟩ (.int .u64 (m : Int))) b s tl m := by
  refine (World.rowIs.set h 72 _).congr (fun j hj => ?_)
  by_cases e : j = 72
  · subst e; simp [hF]
  · rw [if_neg e]
    unfold hF
    by_cases h1 : j < 8
    · rw [if_pos h1, if_pos h1]
    · rw [if_neg h1, if_neg h1, if_pos (by omega), if_pos (by omega)]
theorem Hst.copied {w : World} {b : Nat} {s : St} {tl : List UInt8} {n : Nat} (hl : tl.length = 64) (h : Hst w b s tl n) (r : Nat) (q : List UInt8) (hr : r + q.length ≤ 64) : Hst (w.setCells b (8 + r) (cellsL q)) b s (tl2 tl r q) n := by
  refine (rowIs_setCells (cellsL q) (8 + r) w _ h).congr (fun j hj => ?_)
  rw [cellsL_len]
  unfold hF
  by_cases h1 : j < 8
  · rw [if_neg (by omega), if_pos h1, if_pos h1]
  · by_cases h2 : j < 72
    · rw [if_neg h1, if_pos h2]
      have key : by8 (tl2 tl r q) (j - 8) = if 8 + r ≤ j ∧ j < 8 + r + q.length then by8 q (j - (8 + r)) else by8 tl (j - 8) := by
        unfold by8 tl2
        simp only [List.getD_eq_getElem?_getD]
        by_cases c : 8 + r ≤ j ∧ j < 8 + r + q.length
        · rw [if_pos c, List.getElem?_append_left (by simp; omega), List.getElem?_append_right (by simp; omega)]
          simp only [List.length_take, hl]
          rw [show j - 8 - min r 64 = j - (8 + r) by omega]
        · rw [if_neg c]
          by_cases d : j < 8 + r
          · rw [List.append_assoc, List.getElem?_append_left (by simp; omega), List.getElem?_take, if_pos (by omega)]
          · rw [List.getElem?_append_right (by simp; omega), List.getElem?_drop]
            simp only [List.length_append, List.length_take, hl]
            rw [show r + q.length + (j - 8 - (min r 64 + q.length)) = j - 8 by omega]
      rw [key]
      by_cases c : 8 + r ≤ j ∧ j < 8 + r + q.length
      · rw [if_pos c, if_pos c]
        have e := hc_at q (j - (8 + r)) (by omega)
        have e2 : (hc q)[j - (8 + r)]? = (cellsL q)[j - (8 + r)]? := by simp [hc]
        rw [e2] at e
        rw [e, if_neg h1, if_pos h2]; rfl
      · rw [if_neg c, if_neg c, if_neg h1, if_pos h2]
    · rw [if_neg (by omega), if_neg h1, if_neg h2, if_neg h1, if_neg h2]
theorem size5 (w : World) : (sizeOf 5).run Tryz.prog w = .ok 1 w := by kernel_rfl
theorem Hst.copy {w : World} {b : Nat} {s : St} {tl : List UInt8} {n : Nat} (h : Hst w b s tl n) (r : Nat) (hr : r < 64) (q : ByteArray) (C : Nat) :
    (Builtin.copy_ #[198, 9] 3 #[.slice (some ⟨b, 8 + r, none⟩) (64 - r) C, .string q]).run Tryz.prog w = .ok (.int .i64 (min q.size (64 - r) : Nat)) (w.setCells b (8 + r) (cellsL (q.data.toList.take (64 - r)))) := by
  have hlen : (cellsL (q.data.toList.take (64 - r))).length = min q.size (64 - r) := by
    rw [cellsL_len, List.length_take]
    simp
    omega
  have ht := h.there (8 + r) (64 - r) (by omega)
  have hst := run_storeCells_cells (P := Tryz.prog) b (8 + r) (cellsL (q.data.toList.take (64 - r))) 0 w (fun j hj => by simpa using (ht j (by omega)).1) (fun j hj => by simpa using (ht j (by omega)).2) (fun v hv => by simp only [cellsL, List.mem_map] at hv; obtain ⟨b, _, rfl⟩ := hv; rfl)
  rw [Nat.add_zero] at hst
  have htk : List.take (Nat.min q.size (64 - r)) (List.map (fun b : UInt8 => Value.int IntKind.u8 (b.toNat : Int)) q.data.toList) = cellsL (q.data.toList.take (64 - r)) := by
    rw [cellsL, ← List.map_take]
    congr 1
    show List.take (min q.size (64 - r)) _ = _
    by_cases c : q.size ≤ 64 - r
    · rw [Nat.min_eq_left c, List.take_of_length_le (by simp), List.take_of_length_le (by simp; omega)]
    · rw [Nat.min_eq_right (by omega)]
  simp [Builtin.copy_, run_underlying Tryz.underlying198, Builtin.lenOf, Builtin.firstCells, goInt]
  rw [htk, hst]
  simp [Result.andThen]
end Go.Proofs.YthhojpplbhnnfaaGreatDoor
namespace Go.Proofs.YthhojpplbhnnfaaGreatDoor
open Go.RowKit
open Go.Deep
/-- w' is w but for block b and new blocks. -/
structure Rfr (b : Nat) (w w' : World) : Prop where
  os : w'.os = w.os
  tape : w'.tape = w.tape
  output : w'.output = w.output
  size : w.heap.size ≤ w'.heap.size
  block : ∀ k, k < w.heap.size → k ≠ b → w'.heap[k]? = w.heap[k]?
theorem Rfr.refl (b : Nat) (w : World) : Rfr b w w := ⟨rfl, rfl, rfl, Nat.le_refl _, fun _ _ _ => rfl⟩
theorem Rfr.trans {b : Nat} {w w1 w2 : World} (h : Rfr b w w1) (k : Rfr b w1 w2) : Rfr b w w2 :=
  ⟨k.os.trans h.os, k.tape.trans h.tape, k.output.trans h.output, Nat.le_trans h.size k.size, fun i hi hb => (k.block i (Nat.lt_of_lt_of_le hi h.size) hb).trans (h.block i hi hb)⟩
theorem Rfr.drew (b : Nat) (w : World) : Rfr b w w.drew := ⟨rfl, rfl, rfl, Nat.le_refl _, fun _ _ _ => rfl⟩
theorem Rfr.drewN (b : Nat) (w : World) (n : Nat) : Rfr b w (w.drewN n) := ⟨rfl, rfl, rfl, Nat.le_refl _, fun _ _ _ => rfl⟩
theorem Rfr.below {b : Nat} {w w' : World} (h : Below w.heap.size w w') : Rfr b w w' := ⟨h.os, h.tape, h.output, h.size, fun k hk _ => h.block k hk⟩
theorem Rfr.setCell (b : Nat) (w : World) (i : Nat) (v : Value) : Rfr b w (w.setCell ⟨b, i, none⟩ v) :=
  ⟨rfl, rfl, rfl, by simp [World.setCell], fun k _ hk => Below.heap_setCell _ _ _ _ hk⟩
theorem Rfr.setCells (b : Nat) : ∀ (vs : List Value) (o : Nat) (w : World), Rfr b w (w.setCells b o vs)
  | [], _, w => Rfr.refl b w
  | v :: r, o, w => (Rfr.setCell b w o v).trans (Rfr.setCells b r (o + 1) _)
theorem Rfr.to_below {b B : Nat} {w w' : World} (h : Rfr b w w') (hb : B ≤ b) (hw : B ≤ w.heap.size) : Below B w w' :=
  ⟨h.os, h.tape, h.output, h.size, fun k hk => h.block k (by omega) (by omega)⟩
theorem Kg.rfr {w w' : World} {b : Nat} (h : Kg w) (hb : b ≠ 0) (r : Rfr b w w') : Kg w' := fun j hj =>
  (World.cell?_of_block (w := w) (a := ⟨0, j, none⟩) (r.block 0 h.lt (by omega))).trans (h j hj)
/-- A hasher at block b to which the text t was written. -/
def Hat (w : World) (b : Nat) (t : List UInt8) : Prop := ∃ tl, tl.length = 64 ∧ tl.take (t.length % 64) = rest t ∧ Hst w b (stN t (t.length / 64)) tl t.length
theorem Hat.lt {w : World} {b : Nat} {t : List UInt8} (h : Hat w b t) : b < w.heap.size := by
  obtain ⟨_, _, _, h⟩ := h
  exact h.lt
theorem Hat.of_block {w w' : World} {b : Nat} {t : List UInt8} (h : Hat w b t) (e : w'.heap[b]? = w.heap[b]?) : Hat w' b t := by
  obtain ⟨tl, h1, h2, h⟩ := h
  exact ⟨tl, h1, h2, h.of_block e⟩
theorem Hat.below {w w' : World} {b : Nat} {t : List UInt8} (h : Hat w b t) (hb : Below w.heap.size w w') : Hat w' b t := h.of_block (hb.block b h.lt)
theorem hat_more {w : World} {b n : Nat} {T tl x : List UInt8} {st : St} (hn : T.length = n) (hl : tl.length = 64) (hst : stN T (n / 64) = st) (ht : tl.take (n % 64) = rest T) (hA : n % 64 + x.length < 64)
    (h : Hst w b st (tl2 tl (n % 64) x) (n + x.length)) : Hat w b (T ++ x) := by
  subst hn
  refine ⟨_, tl2_len tl _ x hl (by omega), more_rest T x tl hA hl ht, ?_⟩
  rw [more_st T x hA, hst, List.length_append]
  exact h
theorem hat_full {w : World} {b n : Nat} {T tl x : List UInt8} {st : St} (hn : T.length = n) (hl : tl.length = 64) (hst : stN T (n / 64) = st) (ht : tl.take (n % 64) = rest T) (hA : n % 64 + x.length = 64)
    (h : Hst w b (step st (tl2 tl (n % 64) x)) (tl2 tl (n % 64) x) (n + x.length)) : Hat w b (T ++ x) := by
  subst hn
  have h0 := full_mod T x hA
  refine ⟨_, tl2_len tl (T.length % 64) x hl (by omega), ?_, ?_⟩
  · rw [h0, rest_nil _ h0]
    rfl
  · rw [full_st T x tl hA hl ht, hst, List.length_append]
    exact h
theorem ext_list (x : ByteArray) (k : Nat) : (x.extract k x.size).data.toList = x.data.toList.drop k := by
  rw [ByteArray.data_extract, Array.toList_extract]
  simp [List.extract]
  rw [List.take_of_length_le]
  simp
def lenS : Value → Nat
  | .string s => s.size
  | _ => 0
attribute [local go_sem ↓] ld31_eq ld35_eq sv31_eq
section
set_option maxRecDepth 10000
set_option maxHeartbeats 1000000
theorem write_any (b : Nat) (t : List UInt8) (q : ByteArray) (w : World) (hK : Kg w) (hb : b ≠ 0) (hs : t.length + q.size < 2305843009213693952) (h : Hat w b t) :
    Calls Tryz.prog 85 #[.pointer (some ⟨b, 0, none⟩), .string q] w fun e w' => e = .returned (.tuple #[]) ∧ Hat w' b (t ++ q.data.toList) ∧ Rfr b w w' := by
  have HK := hide hK
  have H0 := hide h
  clear hK h
  go_enter Tryz.func85, Tryz.ntmps85
  go_wp2
  go_loopw [1, 4] (fun sv _ wr => ∃ (p : List UInt8) (x : ByteArray), Hid (q.data.toList = p ++ x.data.toList) ∧ sv = .string x ∧ Hid (Hat wr b (t ++ p)) ∧ Hid (Rfr b w wr)) (fun sv _ _ => lenS sv)
  case atStart => exact ⟨[], q, rfl, rfl, by simpa [Hid] using H0.out, Rfr.refl _ _⟩
  case round =>
    obtain ⟨p, x, hq, rfl, HH, RR⟩ := hrel
    have hsz : (t ++ p).length + x.size < 2305843009213693952 := by
      have := congrArg List.length hq.out
      simp at this
      simp
      omega
    by_cases hx : 0 < x.size
    · generalize hT : t ++ p = T at *
      obtain ⟨tl, hl, ht, hh⟩ := HH.out
      generalize hn : T.length = n at *
      generalize hst : stN T (n / 64) = st at *
      have c72 := hh.long
      have b1 : (0 : Int) ≤ (n : Int) % 64 := by omega
      have b2 : (n : Int) % 64 ≤ 64 := by omega
      have e1 : ((n : Int) % 64).toNat = n % 64 := by omega
      have hcp := Hst.copy (w := wr.drew) hh (n % 64) (by omega) x (64 - n % 64)
      have hxl : x.data.toList.length = x.size := by simp
      by_cases hA : n % 64 + x.size < 64
      · rw [List.take_of_length_le (by omega), Nat.min_eq_left (by omega)] at hcp
        have HT : Hid (T.length % 64 + x.data.toList.length < 64) := by rw [hn, hxl]; exact hA
        have h2 := Hst.copied (w := wr.drew) hl hh (n % 64) x.data.toList (by omega)
        have R2 := hide ((Rfr.drew b wr).trans (Rfr.setCells b (cellsL x.data.toList) (8 + n % 64) wr.drew))
        generalize wr.drew.setCells b (8 + n % 64) (cellsL x.data.toList) = W1 at *
        have d72 := h2.long
        have g72 := h2.frozen 72
        have H3 := hide (h2.setLong (n + x.size))
        have t1 : (((n : Int) + x.size) % 64 == 0) = false := by simp; omega
        have HHt := hide ht
        have HHh := hide hst
        clear ht hst hh h2
        go_wp2
        go_region
        go_wp2
        refine ⟨⟨p ++ x.data.toList, ByteArray.empty, ?_, rfl, ?_, ?_⟩, ?_⟩
        · show q.data.toList = p ++ x.data.toList ++ []
          rw [List.append_nil]; exact hq.out
        · show Hat _ b (t ++ (p ++ x.data.toList))
          rw [← List.append_assoc, hT]
          refine hat_more hn hl HHh.out HHt.out (by omega) ?_
          rw [hxl]
          exact H3.out
        · exact hide (RR.out.trans (R2.out.trans (Rfr.setCell b W1 72 _)))
        · exact hx
      · have hk : (x.data.toList.take (64 - n % 64)).length = 64 - n % 64 := by rw [List.length_take]; omega
        rw [Nat.min_eq_right (by omega)] at hcp
        have h2 := Hst.copied (w := wr.drew) hl hh (n % 64) (x.data.toList.take (64 - n % 64)) (by omega)
        have hl2 := tl2_len tl (n % 64) (x.data.toList.take (64 - n % 64)) hl (by omega)
        have R2 := hide ((Rfr.drew b wr).trans (Rfr.setCells b (cellsL (x.data.toList.take (64 - n % 64))) (8 + n % 64) wr.drew))
        generalize hx1 : x.data.toList.take (64 - n % 64) = x1 at *
        generalize wr.drew.setCells b (8 + n % 64) (cellsL x1) = W1 at *
        generalize htl2 : tl2 tl (n % 64) x1 = tl3 at *
        have d72 := h2.long
        have g72 := h2.frozen 72
        have H3 := h2.setLong (n + (64 - n % 64))
        have R3 := hide (R2.out.trans (Rfr.setCell b W1 72 (.int .u64 ((n + (64 - n % 64) : Nat) : Int))))
        have K3 := hide (HK.out.rfr hb (RR.out.trans R3.out))
        have t1 : (((n : Int) + ((64 - n % 64 : Nat) : Int)) % 64 == 0) = true := by simp; omega
        have ec : ((n + (64 - n % 64) : Nat) : Int) = (n : Int) + ((64 - n % 64 : Nat) : Int) := by omega
        rw [ec] at H3 R3 K3
        have wk : IntKind.u64.wrap ((64 - n % 64 : Nat) : Int) = ((64 - n % 64 : Nat) : Int) := wrapu _ (by omega) (by omega)
        have HHt := hide ht
        have HHh := hide hst
        have HX := hide hx1
        have HTL := hide htl2
        have HS := hide fun W hW => step_any st tl3 hl2 W hW
        have H3' := hide H3
        clear ht hst hh h2 hx1 htl2 H3 R2
        go_wp2
        go_region
        generalize hk0 : 64 - n % 64 = k at *
        have k1 : k ≤ x.size := by omega
        have k2 : 0 < k := by omega
        have Hk := hide hk0
        have k64 : k ≤ 64 := by omega
        clear hk0 ec
        generalize hW2 : W1.setCell ⟨b, 72, none⟩ (.int .u64 ((n : Int) + (k : Int))) = W2 at *
        have HW2 := hide hW2
        have l1 := Hst.ld31 (w := W2.drew) H3'.out
        have l2 := Hst.ld35 (w := W2.drew) hl2 H3'.out
        have e72 : W2.cell? ⟨b, 72, none⟩ = some (.int .u64 ((n : Int) + (k : Int))) := by
          have := H3'.out.long
          rw [this]
          congr 2
        have K4 : Hid (Kg W2.drew) := K3.out
        go_wp2
        go_region_with (go_at_call 131; refine (HS.out _ K4.out).mono ?_; rintro e w3 ⟨rfl, b3⟩; have H4 := hide (Hst.below (w := W2.drew) H3'.out b3); have hsv := H4.out.sv31 (step st tl3); have R4 := hide (Rfr.below (b := b) b3); clear b3)
        all_goals go_wp2
        all_goals
          refine ⟨⟨p ++ x1, x.extract k x.size, ?_, rfl, ?_, ?_⟩, ?_⟩
          · show q.data.toList = p ++ x1 ++ (x.extract k x.size).data.toList
            rw [ext_list, ← HX.out, List.append_assoc, List.take_append_drop]; exact hq.out
          · show Hat _ b (t ++ (p ++ x1))
            rw [← List.append_assoc, hT]
            refine hat_full hn hl HHh.out HHt.out (by have := Hk.out; omega) ?_
            rw [HTL.out, hk]
            exact H4.out.set31 (step st tl3)
          · exact hide (RR.out.trans (R3.out.trans ((Rfr.drew b W2).trans (R4.out.trans (Rfr.setCells b _ _ _)))))
          · simp [lenS]
            omega
    · have hx0 : x.size = 0 := by omega
      have hxe : x.data.toList = [] := List.eq_nil_of_length_eq_zero (by simpa using hx0)
      go_wp2
      go_end0
      refine ⟨rfl, ?_, RR.out⟩
      have := hq.out
      rw [hxe, List.append_nil] at this
      rw [this]
      exact HH.out
end
end Go.Proofs.YthhojpplbhnnfaaGreatDoor
