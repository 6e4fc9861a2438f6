/- The contracts of the methods of num.Writer, on a nil one and on one of the program's own. -/
import Derived.Test.YtnmffnefkokkeaaG
namespace Go.Proofs.Ytnmffnefkokkeaa
open Go.RowKit

/-- A writer that holds l; or none. -/
def Wst (w : World) (p : Value) (l : List UInt8) : Prop :=
  p = .pointer none ∨ ∃ b v, p = .pointer (some ⟨b, 0, none⟩) ∧ w.cell? ⟨b, 0, none⟩ = some v ∧ w.frozen? ⟨b, 0, none⟩ = false ∧ Own w v l ∧ v.ownBlock ≠ some b
def blkOf : Value → Option Nat
  | .pointer (some a) => some a.block
  | _ => none
def rowOf (w : World) : Value → Option Nat
  | .pointer (some a) => (w.cell? a).bind Value.ownBlock
  | _ => none
/-- w' is w but for the writer's block, its row and new blocks; the row is the old one or a new block. -/
structure Wfr (w w' : World) (p : Value) : Prop where
  os : w'.os = w.os
  tape : w'.tape = w.tape
  output : w'.output = w.output
  size : w.heap.size ≤ w'.heap.size
  block : ∀ k, k < w.heap.size → blkOf p ≠ some k → rowOf w p ≠ some k → w'.heap[k]? = w.heap[k]?
  lies : rowOf w' p = rowOf w p ∨ ∃ g, rowOf w' p = some g ∧ w.heap.size ≤ g
theorem Wfr.refl (w : World) (p : Value) : Wfr w w p := ⟨rfl, rfl, rfl, Nat.le_refl _, fun _ _ _ _ => rfl, .inl rfl⟩
theorem Wfr.trans {w w1 w2 : World} {p : Value} (h : Wfr w w1 p) (k : Wfr w1 w2 p) : Wfr w w2 p := by
  have hs := h.size
  refine ⟨k.os.trans h.os, k.tape.trans h.tape, k.output.trans h.output, Nat.le_trans hs k.size, fun i hi h1 h2 => ?_, ?_⟩
  · rw [k.block i (by omega) h1 ?_, h.block i hi h1 h2]
    rcases h.lies with l | ⟨b, l, hb⟩
    · rw [l]; exact h2
    · rw [l]; intro e; cases e; omega
  · rcases k.lies with l' | ⟨b, l', hb⟩
    · rw [l']; exact h.lies
    · exact .inr ⟨b, l', by omega⟩
theorem Own.kept {w w' : World} {v : Value} {l : List UInt8} {row : Option Nat} (h : Own w v l) (hg : w.grownBy w' row) (hne : v.ownBlock = none ∨ v.ownBlock ≠ row) : Own w' v l := World.ownsRow.kept h hg hne
theorem Own.below {w w' : World} {v : Value} {l : List UInt8} (h : Own w v l) (hb : Below w.heap.size w w') : Own w' v l := by
  refine h.kept (row := none) ⟨hb.os, hb.tape, hb.output, hb.size, fun k hk _ => hb.block k hk⟩ ?_
  cases v.ownBlock <;> simp
theorem Wst.below {w w' : World} {p : Value} {l : List UInt8} (h : Wst w p l) (hb : Below w.heap.size w w') : Wst w' p l := by
  rcases h with h | ⟨b, v, rfl, hc, hf, ho, hne⟩
  · exact .inl h
  · have hlt : b < w.heap.size := block_lt_of_cell hc
    exact .inr ⟨b, v, rfl, (hb.cell (p := ⟨b, 0, none⟩) hlt).trans hc, (hb.frozen (p := ⟨b, 0, none⟩) hlt).trans hf, ho.below hb, hne⟩
theorem Wfr.of_below {w w' : World} {p : Value} {l : List UInt8} (h : Wst w p l) (hb : Below w.heap.size w w') : Wfr w w' p := by
  refine ⟨hb.os, hb.tape, hb.output, hb.size, fun k hk _ _ => hb.block k hk, .inl ?_⟩
  rcases h with rfl | ⟨b, v, rfl, hc, hf, ho, hne⟩
  · rfl
  · have hlt : b < w.heap.size := block_lt_of_cell hc
    simp only [rowOf]
    rw [hb.cell (p := ⟨b, 0, none⟩) hlt]
theorem setCell_grown (w : World) (b i : Nat) (v : Value) : w.grownBy (w.setCell ⟨b, i, none⟩ v) (some b) :=
  ⟨rfl, rfl, rfl, by simp [World.setCell], fun k _ hk => Below.heap_setCell _ _ _ _ (fun e => hk (by simp [e]))⟩
/-- What is written back into the writer's field. -/
theorem Wst.stored {w w1 : World} {b : Nat} {v v' : Value} {l : List UInt8} (hc : w.cell? ⟨b, 0, none⟩ = some v) (hf : w.frozen? ⟨b, 0, none⟩ = false) (hne : v.ownBlock ≠ some b) (ho : Own w1 v' l) (hon : Onto w w1 v v') :
    w1.cell? ⟨b, 0, none⟩ = some v ∧ w1.frozen? ⟨b, 0, none⟩ = false ∧ Wst (w1.setCell ⟨b, 0, none⟩ v') (.pointer (some ⟨b, 0, none⟩)) l ∧ Wfr w (w1.setCell ⟨b, 0, none⟩ v') (.pointer (some ⟨b, 0, none⟩)) := by
  have hlt : b < w.heap.size := block_lt_of_cell hc
  have hb : w1.heap[b]? = w.heap[b]? := hon.grown.block b hlt (fun e => hne e.symm)
  have h1 : w1.cell? ⟨b, 0, none⟩ = some v := (World.cell?_of_block hb).trans hc
  have h2 : w1.frozen? ⟨b, 0, none⟩ = false := (World.frozen?_of_block hb).trans hf
  have hne' : v'.ownBlock ≠ some b := by
    rcases hon.lies with e | ⟨g, e, hg⟩
    · rw [e]; exact hne
    · rw [e]; intro e'; cases e'; omega
  have h3 : (w1.setCell ⟨b, 0, none⟩ v').cell? ⟨b, 0, none⟩ = some v' := World.cell?_setCell_same _ _ _ h1
  refine ⟨h1, h2, .inr ⟨b, v', rfl, h3, by rw [World.frozen?_setCell]; exact h2, ho.kept (setCell_grown w1 b 0 v') (.inr hne'), hne'⟩, ?_⟩
  refine ⟨hon.grown.os, hon.grown.tape, hon.grown.output, by have := hon.grown.size; simpa [World.setCell] using this, fun k hk a1 a2 => ?_, ?_⟩
  · simp only [rowOf, hc, Option.bind_some] at a2
    have a1' : k ≠ b := fun e => a1 (by simp [blkOf, e])
    rw [Below.heap_setCell _ _ _ _ a1']
    exact hon.grown.block k hk (fun e => a2 e.symm)
  · simp only [rowOf, hc, h3, Option.bind_some]
    exact hon.lies

section
set_option maxRecDepth 10000
theorem number_any (p : Value) (l : List UInt8) (n k : Nat) (K : Int) (hK : K = k) (hn : U64 n) (w : World) (hk : k ≤ 8) (hl : l.length ≤ 35184372088832) (h : Wst w p l) :
    Calls Try.prog 75 #[p, .int .u64 n, .int .i64 K] w fun e w' => e = .returned (.tuple #[]) ∧ Wst w' p (l ++ lowL n k) ∧ Wfr w w' p := by
  subst hK
  rcases h with rfl | ⟨b, v, rfl, hc, hf, ho, hne⟩
  · go_enter Try.func75, Try.ntmps75
    go_wp2
    go_end0
    exact ⟨rfl, .inl rfl, Wfr.refl _ _⟩
  · go_enter Try.func75, Try.ntmps75
    go_wp2_with (go_at_call 72; refine (putLow_any v l n k k rfl hn _ hk (by omega) ho).mono ?_; rintro e w1 ⟨v', rfl, ho1, hon⟩; obtain ⟨ao, nn, c, rfl, _⟩ := ho1.form; obtain ⟨c1, f1, hw1, hw2⟩ := Wst.stored hc hf hne ho1 hon)
    go_end0
    exact ⟨rfl, hw1, hw2⟩
theorem wByte (p : Value) (l : List UInt8) (n : Nat) (hn : n < 256) (w : World) (hl : l.length ≤ 35184372088832) (h : Wst w p l) :
    Calls Try.prog 60 #[p, .int .u8 n] w fun e w' => e = .returned (.tuple #[]) ∧ Wst w' p (l ++ lowL n 1) ∧ Wfr w w' p := by
  go_enter Try.func60, Try.ntmps60
  go_wp2_with (go_at_call 75; refine (number_any p l n 1 1 rfl (by unfold U64; omega) _ (by omega) hl h).mono ?_; rintro e w1 ⟨rfl, hw1, hw2⟩)
  go_end0
  exact ⟨rfl, hw1, hw2⟩
theorem wU16 (p : Value) (l : List UInt8) (n : Nat) (hn : n < 65536) (w : World) (hl : l.length ≤ 35184372088832) (h : Wst w p l) :
    Calls Try.prog 61 #[p, .int .u16 n] w fun e w' => e = .returned (.tuple #[]) ∧ Wst w' p (l ++ lowL n 2) ∧ Wfr w w' p := by
  go_enter Try.func61, Try.ntmps61
  go_wp2_with (go_at_call 75; refine (number_any p l n 2 2 rfl (by unfold U64; omega) _ (by omega) hl h).mono ?_; rintro e w1 ⟨rfl, hw1, hw2⟩)
  go_end0
  exact ⟨rfl, hw1, hw2⟩
theorem wU32 (p : Value) (l : List UInt8) (n : Nat) (hn : n < 4294967296) (w : World) (hl : l.length ≤ 35184372088832) (h : Wst w p l) :
    Calls Try.prog 62 #[p, .int .u32 n] w fun e w' => e = .returned (.tuple #[]) ∧ Wst w' p (l ++ lowL n 4) ∧ Wfr w w' p := by
  go_enter Try.func62, Try.ntmps62
  go_wp2_with (go_at_call 75; refine (number_any p l n 4 4 rfl (by unfold U64; omega) _ (by omega) hl h).mono ?_; rintro e w1 ⟨rfl, hw1, hw2⟩)
  go_end0
  exact ⟨rfl, hw1, hw2⟩
theorem wU64 (p : Value) (l : List UInt8) (n : Nat) (hn : U64 n) (w : World) (hl : l.length ≤ 35184372088832) (h : Wst w p l) :
    Calls Try.prog 63 #[p, .int .u64 n] w fun e w' => e = .returned (.tuple #[]) ∧ Wst w' p (l ++ lowL n 8) ∧ Wfr w w' p := by
  go_enter Try.func63, Try.ntmps63
  go_wp2_with (go_at_call 75; refine (number_any p l n 8 8 rfl hn _ (by omega) hl h).mono ?_; rintro e w1 ⟨rfl, hw1, hw2⟩)
  go_end0
  exact ⟨rfl, hw1, hw2⟩
theorem swap_eq (n : Nat) (hn : n < 65536) : bits BinOp.or IntKind.u16 (IntKind.u16.wrap ((n : Int) * 256)) ((n : Int) / 256) = ((n % 256 * 256 + n / 256 : Nat) : Int) := by
  rw [IntKind.wrap_u16, bits_join .u16 16 (by decide) (fun n h0 h1 => by rw [IntKind.wrap_u16]; omega) 8 _ _ (by omega) (by omega) (by omega) (by omega) (by omega) (by omega)]
  omega
theorem swap_any (n : Nat) (hn : n < 65536) (w : World) : Calls Try.prog 71 #[.int .u16 n] w fun e w' => e = .returned (.int .u16 ((n % 256 * 256 + n / 256 : Nat) : Int)) ∧ w' = w := by
  have he := swap_eq n hn
  go_enter Try.func71, Try.ntmps71
  go_wp2
  go_ret
  exact ⟨rfl, rfl⟩
theorem wBig (p : Value) (l : List UInt8) (n : Nat) (hn : n < 65536) (w : World) (hl : l.length ≤ 35184372088832) (h : Wst w p l) :
    Calls Try.prog 64 #[p, .int .u16 n] w fun e w' => e = .returned (.tuple #[]) ∧ Wst w' p (l ++ lowL (n % 256 * 256 + n / 256) 2) ∧ Wfr w w' p := by
  go_enter Try.func64, Try.ntmps64
  go_wp2_with (first | (go_at_call 71; refine (swap_any n hn _).mono ?_; rintro e w1 ⟨rfl, rfl⟩) | (go_at_call 61; refine (wU16 p l (n % 256 * 256 + n / 256) (by omega) _ hl h).mono ?_; rintro e w1 ⟨rfl, hw1, hw2⟩))
  go_end0
  exact ⟨rfl, hw1, hw2⟩
theorem wCount (p : Value) (l : List UInt8) (n : Nat) (hn : U64 n) (w : World) (hl : l.length ≤ 35184372088832) (h : Wst w p l) :
    Calls Try.prog 65 #[p, .int .u64 n] w fun e w' => e = .returned (.tuple #[]) ∧ Wst w' p (l ++ countL n) ∧ Wfr w w' p := by
  rcases h with rfl | ⟨b, v, rfl, hc, hf, ho, hne⟩
  · go_enter Try.func65, Try.ntmps65
    go_wp2
    go_end0
    exact ⟨rfl, .inl rfl, Wfr.refl _ _⟩
  · go_enter Try.func65, Try.ntmps65
    go_wp2_with (go_at_call 49; refine (putCount_any v l n hn _ (by omega) ho).mono ?_; rintro e w1 ⟨v', rfl, ho1, hon⟩; obtain ⟨ao, nn, c, rfl, _⟩ := ho1.form; obtain ⟨c1, f1, hw1, hw2⟩ := Wst.stored hc hf hne ho1 hon)
    go_end0
    exact ⟨rfl, hw1, hw2⟩
theorem wBytes (p : Value) (l : List UInt8) (s : ByteArray) (hs : p = .pointer none ∨ s.size ≤ 35184372088832) (w : World) (hl : l.length ≤ 35184372088932) (h : Wst w p l) :
    Calls Try.prog 66 #[p, .string s] w fun e w' => e = .returned (.tuple #[]) ∧ Wst w' p (l ++ s.data.toList) ∧ Wfr w w' p := by
  rcases h with rfl | ⟨b, v, rfl, hc, hf, ho, hne⟩
  · go_enter Try.func66, Try.ntmps66
    go_wp2
    go_end0
    exact ⟨rfl, .inl rfl, Wfr.refl _ _⟩
  · have hs' : s.size ≤ 35184372088832 := by simpa using hs
    clear hs
    go_enter Try.func66, Try.ntmps66
    go_wp2_with (at_builtin; refine wpList_app_str rfl _ _ rfl v l rfl ho s rfl (by omega) ?_; intro v' w1 ho1 hon; obtain ⟨ao, nn, c, rfl, _⟩ := ho1.form; obtain ⟨c1, f1, hw1, hw2⟩ := Wst.stored hc hf hne ho1 hon)
    go_end0
    exact ⟨rfl, hw1, hw2⟩
theorem wString (p : Value) (l : List UInt8) (s : ByteArray) (hs0 : s.size ≤ 140737488351232) (hs : p = .pointer none ∨ s.size ≤ 35184372088832) (w : World) (hl : l.length ≤ 35184372088832) (h : Wst w p l) :
    Calls Try.prog 67 #[p, .string s] w fun e w' => e = .returned (.tuple #[]) ∧ Wst w' p (l ++ countL s.size ++ s.data.toList) ∧ Wfr w w' p := by
  have hcl : (l ++ countL s.size).length ≤ 35184372088932 := by
    have h1 := countL_len s.size
    have h2 := clong_le s.size
    rw [List.length_append]
    omega
  have HS : Hid (p = .pointer none ∨ s.size ≤ 35184372088832) := hs
  clear hs
  go_enter Try.func67, Try.ntmps67
  go_wp2_with fail
  refine (wCount p l s.size (by unfold U64; omega) _ hl h).mono ?_
  rintro e w1 ⟨rfl, hw1, hw2⟩
  go_wp2_with fail
  refine (wBytes p (l ++ countL s.size) s HS.out _ hcl hw1).mono ?_
  rintro e w2 ⟨rfl, hw3, hw4⟩
  go_wp2
  go_end0
  exact ⟨rfl, hw3, hw2.trans hw4⟩
theorem wBool (p : Value) (l : List UInt8) (b : Bool) (w : World) (hl : l.length ≤ 35184372088832) (h : Wst w p l) :
    Calls Try.prog 69 #[p, .bool b] w fun e w' => e = .returned (.tuple #[]) ∧ Wst w' p (l ++ lowL (if b then 1 else 0) 1) ∧ Wfr w w' p := by
  cases b
  · go_enter Try.func69, Try.ntmps69
    go_wp2_with (go_at_call 60; refine (wByte p l 0 (by omega) _ hl h).mono ?_; rintro e w1 ⟨rfl, hw1, hw2⟩)
    go_end0
    exact ⟨rfl, hw1, hw2⟩
  · go_enter Try.func69, Try.ntmps69
    go_wp2_with (go_at_call 60; refine (wByte p l 1 (by omega) _ hl h).mono ?_; rintro e w1 ⟨rfl, hw1, hw2⟩)
    go_end0
    exact ⟨rfl, hw1, hw2⟩
theorem run_box33 (w : World) (l : List UInt8) : (Instr.box 33 (.agg (hc l))).run Try.prog w = .ok (.pointer (some ⟨w.heap.size, 0, none⟩)) (w.alloc (.cells (hc l) 33)) := by
  rfl
theorem wpList_box33 {w : World} {ops : Array Oper} {rest : List Oper} {o : Oper} {a : Act} {Q : Exit → Act → World → Prop} (hgd : o.guard = none) (x : Operand) (ho : o.op = .box 33 x) (l : List UInt8) (hx : a.eval x = .agg (hc l))
    (h : wpList Try.prog ops Q rest (a.put o.dst (.pointer (some ⟨w.heap.size, 0, none⟩))) (w.alloc (.cells (hc l) 33))) : wpList Try.prog ops Q (o :: rest) a w := by
  refine wpList_plain hgd fun K hK => ?_
  unfold Oper.wp execOp
  simp only [ho, hx, run_box33, Sem.run_bind, Result.andThen_ok, Sem.run_pure]
  exact hK _ _ h
theorem wHash (p : Value) (l : List UInt8) (hh : List UInt8) (hhl : hh.length = 32) (w : World) (hl : l.length ≤ 35184372088832) (h : Wst w p l) :
    Calls Try.prog 68 #[p, .agg (hc hh)] w fun e w' => e = .returned (.tuple #[]) ∧ Wst w' p (l ++ hh) ∧ Wfr w w' p := by
  have hb : Below w.heap.size w (w.alloc (.cells (hc hh) 33)) := (Below.refl _ _).alloc (Nat.le_refl _) _
  have hcv := conv33 (w.alloc (.cells (hc hh) 33)) w.heap.size hh hhl 33 (heap_alloc_new w _)
  have hz : (⟨hh.toArray⟩ : ByteArray).size = 32 := by show hh.toArray.size = 32; simpa using hhl
  go_enter Try.func68, Try.ntmps68
  go_wp2_with (first | refine wpList_box33 rfl _ rfl hh rfl ?_ | (go_at_call 66; refine (wBytes p l ⟨hh.toArray⟩ (.inr (by omega)) _ (by omega) (h.below hb)).mono ?_; rintro e w1 ⟨rfl, hw1, hw2⟩))
  go_end0
  exact ⟨rfl, hw1, (Wfr.of_below h hb).trans hw2⟩
end
end Go.Proofs.Ytnmffnefkokkeaa
