/- Bytes that are appended (a seat without sha). -/
import Derived.Test.YtkbfcfmjbgnhcaaB0
import Derived.Deep.AppendSrc
import Derived.Deep.DeepAppendRoom
import Derived.Lib.SmallJoins
namespace Go.Proofs.Ytkbfcfmjbgnhcaa
open Go.RowKit
open Go.Deep
/-! ### Memory that is appended to -/
/-- w' is w but for v's own row and new blocks; v' lies in v's row or in a new block. -/
structure Onto (w w' : World) (v v' : Value) : Prop where
  grown : w.grownBy w' v.ownBlock
  lies : v'.ownBlock = v.ownBlock ∨ ∃ g, v'.ownBlock = some g ∧ w.heap.size ≤ g
theorem Onto.refl (w : World) (v : Value) : Onto w w v v := ⟨⟨rfl, rfl, rfl, Nat.le_refl _, fun _ _ _ => rfl⟩, .inl rfl⟩
theorem Onto.trans {w w1 w2 : World} {v v1 v2 : Value} (h : Onto w w1 v v1) (k : Onto w1 w2 v1 v2) : Onto w w2 v v2 := by
  obtain ⟨g, l⟩ := h
  obtain ⟨g', l'⟩ := k
  have hs := g.size
  refine ⟨⟨g'.os.trans g.os, g'.tape.trans g.tape, g'.output.trans g.output, Nat.le_trans hs g'.size, fun i hi hne => ?_⟩, ?_⟩
  · rw [g'.block i (by omega) ?_, g.block i hi hne]
    rcases l with l | ⟨b, l, hb⟩
    · rw [l]; exact hne
    · rw [l]; intro e; cases e; omega
  · rcases l' with l' | ⟨b, l', hb⟩
    · rw [l']; exact l
    · exact .inr ⟨b, l', by omega⟩
theorem Onto.alloc {w w' : World} {v v' : Value} (h : Onto w w' v v') (o : Obj) : Onto w (w'.alloc o) v v' := by
  obtain ⟨g, l⟩ := h
  refine ⟨⟨g.os, g.tape, g.output, by have := g.size; simp; omega, fun i hi hne => ?_⟩, l⟩
  rw [Below.heap_alloc _ _ _ (by have := g.size; omega)]
  exact g.block i hi hne
theorem Onto.drew {w w' : World} {v v' : Value} (h : Onto w w' v v') : Onto w w'.drew v v' := by
  obtain ⟨g, l⟩ := h
  exact ⟨⟨g.os, g.tape, g.output, g.size, g.block⟩, l⟩
theorem Onto.below {w w' : World} {v v' : Value} (h : Onto w w' v v') {B : Nat} (hB : B ≤ w.heap.size) (hv : ∀ k, v.ownBlock = some k → B ≤ k) : Below B w w' :=
  (Below.refl B w).grown h.grown hB hv
theorem Onto.far {w w' : World} {v v' : Value} (h : Onto w w' v v') {B : Nat} (hB : B ≤ w.heap.size) (hv : ∀ k, v.ownBlock = some k → B ≤ k) : ∀ k, v'.ownBlock = some k → B ≤ k := by
  intro k hk
  rcases h.lies with l | ⟨b, l, hb⟩
  · rw [l] at hk; exact hv k hk
  · rw [l] at hk; cases hk; omega
/-- v is a slice of bytes of the program's own making that holds l. -/
def Own (w : World) (v : Value) (l : List UInt8) : Prop := w.ownsRow 0 5 1 v l.length (cellsL l)
theorem Own.nil (w : World) : Own w (.slice none 0 0) [] := World.ownsRow_nil _ _ _ _

theorem Own.alloc {w : World} {v : Value} {l : List UInt8} (h : Own w v l) (o : Obj) : Own (w.alloc o) v l := World.ownsRow.alloc h o
theorem info5 : (Try.prog.info? 5).map (fun i => (i.zero, i.size, i.bytes)) = some (some (.int .u8 0), 1, 1) := by kernel_rfl

theorem run_app {w : World} {ty : TypeId} {v : Value} {l : List UInt8} (hown : Own w v l) (ad : Addr) (m c : Nat) (news : List UInt8) (hm : m = news.length) (hnews : ∀ j u, (cellsL news)[j]? = some u → w.cell? (ad.add j) = some u)
    (hsm : l.length + m ≤ 140737488355328) :
    ∃ v' w', (Builtin.append_ #[74, 74] ty #[v, .slice (some ad) m c]).run Try.prog w = .ok v' w' ∧ Own w' v' (l ++ news) ∧ Onto w w' v v' := by
  obtain ⟨i0, hi, hz0, hz1, hz2⟩ := info_parts info5
  obtain ⟨v', w', hr, h2, h3, _, h5⟩ := run_append_own_at (P := Try.prog) w 0 74 ty 5 i0 (.int .u8 0) 1 1 Try.underlying74 hi hz0 hz1 hz2 rfl (by decide) v l.length (cellsL l) hown ad m c (cellsL news) (by simp [cellsL_len, hm]) hnews
    (fun u hu => by simp only [cellsL, List.mem_map] at hu; obtain ⟨b, _, rfl⟩ := hu; rfl) (by unfold maxLen; omega) (by omega) (Nat.zero_le _)
  refine ⟨v', w', hr, ?_, ⟨h3, ?_⟩⟩
  · unfold Own
    rw [List.length_append, cellsL_app, ← hm]
    exact h2
  · rcases h5 with h5 | h5
    · exact .inl h5
    · exact .inr ⟨_, h5, Nat.le_refl _⟩
theorem wpList_app {w : World} {ops : Array Oper} {rest : List Oper} {o : Oper} {a : Act} {Q : Exit → Act → World → Prop} (hgd : o.guard = none) (s x : Operand)
    (ho : o.op = .call { callee := .builtin .append, args := #[s, x], argTypes := #[74, 74] })
    (v : Value) (l : List UInt8) (hs : a.eval s = v) (hown : Own w v l)
    (ad : Addr) (m c : Nat) (news : List UInt8) (hx : a.eval x = .slice (some ad) m c) (hm : m = news.length) (hnews : ∀ j u, (cellsL news)[j]? = some u → w.cell? (ad.add j) = some u) (hsm : l.length + m ≤ 140737488355328)
    (h : ∀ v' w', Own w' v' (l ++ news) → Onto w w' v v' → wpList Try.prog ops Q rest (a.put o.dst v') w') :
    wpList Try.prog ops Q (o :: rest) a w := by
  refine wpList_plain hgd fun K hK => ?_
  obtain ⟨v', w', hr, h2, h3⟩ := run_app (ty := o.type) hown ad m c news hm hnews hsm
  unfold Oper.wp execOp
  simp only [ho, resolve, invoke, builtin, Sem.run_bind, Sem.run_pure, Result.andThen_ok, List.map_toArray, List.map_cons, List.map_nil, hs, hx, hr]
  exact hK _ _ (h v' w' h2 h3)
/-- The one cell of a block that was just laid. -/
theorem one_new (w : World) (x : Int) (b : UInt8) (hx : x = b.toNat) : ∀ j u, (cellsL [b])[j]? = some u → (w.alloc (.cells #[.int .u8 x] 5)).cell? ((⟨w.heap.size, 0, none⟩ : Addr).add j) = some u := by
  subst hx
  exact cell_one_new _ _ _

/-- A slice of bytes of the program's own, turned into a string. -/
theorem conv_own {w : World} {v : Value} {l : List UInt8} (h : Own w v l) : (convert 74 9 v).run Try.prog w = .ok (.string ⟨l.toArray⟩) w := by
  rcases h.2 with ⟨rfl, h0⟩ | ⟨g, cap, cur, rfl, hb, hg, hn, hm, hsz, ht⟩
  · have : l = [] := List.eq_nil_of_length_eq_zero h0
    subst this
    exact run_convert_bytes_nil (P := Try.prog) w 74 5 Try.underlying74 Try.underlying5 0 0 9 Try.underlying9
  · refine run_convert_bytes_back (P := Try.prog) w 74 9 5 ⟨g, 0, none⟩ cap l Try.underlying74 Try.underlying5 Try.underlying9 ?_
    intro j hj
    refine World.ownsRow.cells h rfl j _ ?_
    simp [cellsL, hj]


theorem row_own {w : World} {g C : Nat} {f : Nat → Value} {l : List UInt8} (h : w.rowIs g 5 C f) (hl : l.length ≤ C) (hC : C ≤ maxLen) (hf : ∀ i (hi : i < l.length), f i = .int .u8 (l[i].toNat : Int)) : Own w (.slice (some ⟨g, 0, none⟩) l.length C) l := by
  obtain ⟨c, hb, hn, hc⟩ := h
  refine ⟨by simp [cellsL_len], .inr ⟨g, C, c, rfl, Nat.zero_le _, hb, hl, hC, by omega, ?_⟩⟩
  apply List.ext_getElem?
  intro i
  rw [Nat.mul_one, List.getElem?_take]
  by_cases hi : i < l.length
  · rw [if_pos hi, Array.getElem?_toList, hc i (by omega), hf i hi]
    simp [cellsL, hi]
  · rw [if_neg hi, List.getElem?_eq_none (by rw [cellsL_len]; omega)]
theorem wpList_make_at {w : World} {ops : Array Oper} {rest : List Oper} {o : Oper} {a : Act} {Q : Exit → Act → World → Prop} (hgd : o.guard = none) (l c : Operand) (hop : o.op = Op.makeSlice 74 l c)
    (kl kc : IntKind) (L C : Int) (n m : Nat) (hl : a.eval l = .int kl L) (hc : a.eval c = .int kc C) (hL : L = n) (hC : C = m) (hnm : n ≤ m) (hm : m ≤ 281474976710656)
    (h : ∀ w', w'.rowIs w.heap.size 5 m (fun _ => .int .u8 0) → Below w.heap.size w w' → wpList Try.prog ops Q rest (a.put o.dst (.slice (some ⟨w.heap.size, 0, none⟩) n m)) w') : wpList Try.prog ops Q (o :: rest) a w := by
  subst hL hC
  refine wpList_plain hgd fun K hK => ?_
  obtain ⟨i0, hi, hz0, hz1, hz2⟩ := info_parts info5
  have hr := run_make (P := Try.prog) w 74 5 i0 (.int .u8 0) Try.underlying74 hi hz0 kl kc n m (by omega) (by omega) (by rw [hz2]; omega) (by omega)
  rw [Int.toNat_natCast, Int.toNat_natCast, hz1, Nat.mul_one] at hr
  unfold Oper.wp
  simp only [execOp, hop, hl, hc, hr, Sem.run_bind, Result.andThen_ok, Sem.run_pure]
  exact hK _ _ (h _ (World.rowIs_made w _ m 5) ((Below.refl _ _).alloc (Nat.le_refl _) _))
theorem Own.form {w : World} {v : Value} {l : List UInt8} (h : Own w v l) : ∃ ao n c, v = .slice ao n c ∧ Hid (n = l.length) := by
  rcases h.2 with ⟨rfl, h0⟩ | ⟨g, cap, cur, rfl, _⟩
  · exact ⟨none, 0, 0, rfl, h0.symm⟩
  · exact ⟨_, _, _, rfl, rfl⟩
/-- How long a slice is. -/
def lenV : Value → Nat
  | .slice _ n _ => n
  | _ => 0
theorem Own.len {w : World} {v : Value} {l : List UInt8} (h : Own w v l) : lenV v = l.length := by
  obtain ⟨ao, n, c, rfl, hn⟩ := Own.form h
  exact hn.out
end Go.Proofs.Ytkbfcfmjbgnhcaa
