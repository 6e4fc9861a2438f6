/- What a fall leaves; the contract of fall, its parts. -/
import Derived.Test.YtgncphoaknffnaaDoorX19
namespace Go.Proofs.YtgncphoaknffnaaDoor
open Go.RowKit
open Go.Deep
open Go.Lib
/-- How many loose changes stay. -/
def kp (x : StD) (keep : Int) : Nat := min keep.toNat x.loose.length
/-- The files that stay. -/
def flS (x : StD) (keep torn : Int) : FS :=
  match x.loose[kp x keep]? with
  | none => doL x.sure (x.loose.take (kp x keep))
  | some c => if tornB c torn then doC (doL x.sure (x.loose.take (kp x keep))) (tornC c torn) else doL x.sure (x.loose.take (kp x keep))
def flC (x : StD) (keep torn : Int) : StD := { x with now := flS x keep torn, sure := flS x keep torn, loose := [], dead := true }
theorem ext_len (s : ByteArray) (k : Nat) (h : k ≤ s.size) : (s.extract 0 k).size = k := by
  simp
  omega
theorem torn_okD {f : FS} {c : Ch} {n : Int} (h : okD f c) (ht : tornB c n = true) : okD f (tornC c n) := by
  unfold tornB at ht
  simp only [Bool.and_eq_true, decide_eq_true_eq] at ht
  obtain ⟨hk, hn⟩ := ht
  have hp := h.pos (by omega)
  have hsz : (tornC c n).s.size = min n.toNat c.s.size := ext_len _ _ (by omega)
  have hd : doC f c = f.put (ls c.name) (wr8 (f.at (ls c.name)) c.pos (ls c.s)) := by unfold doC; rw [if_pos hk]
  have hd' : doC f (tornC c n) = f.put (ls c.name) (wr8 (f.at (ls c.name)) c.pos (ls (tornC c n).s)) := by
    unfold doC
    rw [if_pos (show (tornC c n).kind = 0 from hk)]
    rfl
  refine ⟨h.kind, h.name, h.dst, fun _ => hp, by have := h.len; omega, h.bd, ?_⟩
  have hb := h.bd'
  rw [hd] at hb
  rw [hd']
  refine ⟨hb.n, fun k => ?_⟩
  have hbl := hb.len k
  rw [at_put] at hbl ⊢
  split
  · rename_i e
    rw [if_pos e] at hbl
    rw [wr8_len _ _ _ hp] at hbl ⊢
    have e1 : (ls (tornC c n).s).length = (tornC c n).s.size := by simp
    have e2 : (ls c.s).length = c.s.size := by simp
    omega
  · rename_i e
    rw [if_neg e] at hbl
    exact hbl
theorem flS_bd {x : StD} (hV : Vd x) (keep torn : Int) : Bd (flS x keep torn) := by
  unfold flS
  have h1 := (hV.ok.take (kp x keep)).end_
  split
  · exact h1
  · rename_i c hc
    split
    · rename_i ht
      exact (torn_okD (hV.ok.at_ hc) ht).bd'
    · exact h1
theorem flC_vd {x : StD} (hV : Vd x) (keep torn : Int) : Vd (flC x keep torn) := ⟨flS_bd hV keep torn, rfl, Nat.zero_le _, hV.made⟩
section
variable {W w' : World} {gd b : Nat} {x : StD} {T S1 S2 : Nat → Prop} {mn ms : Option Nat} {vo vp : Value} {F : List UInt8 → Option Value} {f' : FS}
/-- Files laid anew. -/
theorem DP.newNow (h : DP W gd x T S1 S2 mn ms vo vp) (hf : Fs w' b F f' (fun g => W.heap.size ≤ g ∧ g < w'.heap.size)) (hb : Below W.heap.size W w') : DP (w'.setCell ⟨gd, 0, none⟩ (.map (some b))) gd { x with now := f' } (grow T W w') (fun g => W.heap.size ≤ g ∧ g < w'.heap.size) S2 (some b) ms vo vp := by
  have hz : (w'.setCell ⟨gd, 0, none⟩ (.map (some b))).heap.size = w'.heap.size := by simp [World.setCell]
  have hblk : ∀ g, T g → g ≠ gd → (w'.setCell ⟨gd, 0, none⟩ (.map (some b))).heap[g]? = W.heap[g]? := fun g ht hg => (Below.heap_setCell _ _ _ _ hg).trans (hb.block g (h.lt g ht))
  have hgd := h.lt gd h.tg
  refine ⟨(World.rowIs.set (World.rowIs.of_block h.row (hb.block gd hgd)) 0 (.map (some b))).congr fun i hi => ?_, .inr ⟨b, F, rfl, hf.frame (by omega) fun g hg => Below.heap_setCell _ _ _ _ (by show g ≠ gd; omega)⟩, h.sure.frame (by have := hb.size; omega) fun g hg => hblk g (h.t2 g hg) fun e => h.d2 (e ▸ hg), rowsOf h.loose fun g hg => hblk g (h.tl g hg) (h.l1 g hg).2.2, rowsOf h.plan fun g hg => hblk g (h.tp g hg) (h.p1 g hg).2.2, .inl h.tg, fun g hg => .inr hg, fun g hg => .inl (h.t2 g hg), fun g hg => .inl (h.tl g hg), fun g hg => .inl (h.tp g hg), fun g hg h2 => ?_, fun hg => ?_, h.d2, fun g hg => ⟨fun e => ?_, (h.l1 g hg).2⟩, fun g hg => ⟨fun e => ?_, (h.p1 g hg).2⟩, fun g hg => by rw [hz]; exact grow_lt h.lt hb.size g hg⟩
  · have : i = 0 ∨ i = 1 ∨ i = 2 ∨ i = 3 ∨ i = 4 ∨ i = 5 := by omega
    rcases this with rfl | rfl | rfl | rfl | rfl | rfl <;> rfl
  · have := h.lt g (h.t2 g h2)
    omega
  · omega
  · have := h.lt g (h.tl g hg)
    omega
  · have := h.lt g (h.tp g hg)
    omega
end
section
variable {w : World} {o : Oper} {a : Act}
theorem ex_max (x y : Operand) (ho : o.op = .call { callee := .builtin .max, args := #[x, y], argTypes := #[3, 3] }) {m n r : Int} (hx : a.eval x = .int .i64 m) (hy : a.eval y = .int .i64 n) (hr : (if n > m then n else m) = r) : (execOp a.eval o).run Tryd.prog w = .ok (.value (.int .i64 r)) w := by
  unfold execOp
  simp only [ho, resolve, invoke, builtin, Sem.run_bind, Sem.run_pure, Result.andThen_ok, List.map_toArray, List.map_cons, List.map_nil, hx, hy]
  rw [← hr]
  rfl
theorem ex_min (x y : Operand) (ho : o.op = .call { callee := .builtin .min, args := #[x, y], argTypes := #[3, 3] }) {m n r : Int} (hx : a.eval x = .int .i64 m) (hy : a.eval y = .int .i64 n) (hr : (if n < m then n else m) = r) : (execOp a.eval o).run Tryd.prog w = .ok (.value (.int .i64 r)) w := by
  unfold execOp
  simp only [ho, resolve, invoke, builtin, Sem.run_bind, Sem.run_pure, Result.andThen_ok, List.map_toArray, List.map_cons, List.map_nil, hx, hy]
  rw [← hr]
  rfl
theorem sizeC (w : World) : (sizeOf 104).run Tryd.prog w = .ok 5 w := by kernel_rfl
theorem run_cutC {v : Value} {l : List Ch} (h : w.ownsRow 0 104 5 v l.length (chs l)) (k : Nat) (hk : k ≤ l.length) (W : World) : (Instr.sliceAt 68 v none (some (.int .i64 (k : Int))) none).run Tryd.prog W = .ok (cutv v k) W := by
  rcases h.2 with ⟨rfl, h0⟩ | ⟨g, cap, cur, rfl, _, _, hnc, _⟩
  · have : k = 0 := by omega
    subst this
    simp [Instr.sliceAt, Instr.slice, run_underlying Tryd.underlying68, Instr.sliceBounds, Instr.sliceBound, asIntOf, cutv, Result.andThen]
  · have hi : k ≤ cap := by omega
    simp [Instr.sliceAt, Instr.slice, run_underlying Tryd.underlying68, Instr.sliceBounds, Instr.sliceBound, asIntOf, hi, cutv, Result.andThen, addr_add]
end
end Go.Proofs.YtgncphoaknffnaaDoor
