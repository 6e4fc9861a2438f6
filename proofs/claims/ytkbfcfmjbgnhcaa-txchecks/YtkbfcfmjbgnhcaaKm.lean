/- tx's parts: a transaction: its contract. -/
import Derived.Test.YtkbfcfmjbgnhcaaKl
namespace Go.Proofs.Ytkbfcfmjbgnhcaa
open Go.RowKit
open Go.Deep
set_option linter.unusedVariables false
/-- A transaction's lists, made behind B. -/
structure LO (B w : World) (m : Tm) (ai : Option Addr) (ci : Nat) (ao : Option Addr) (co : Nat) : Prop where
  xi : OX KA w (.slice ai m.ins.length ci) m.ins
  fi : ∀ g, (Value.slice ai m.ins.length ci).ownBlock = some g → B.heap.size ≤ g
  xo : OX KO w (.slice ao m.outs.length co) m.outs
  fo : ∀ g, (Value.slice ao m.outs.length co).ownBlock = some g → B.heap.size ≤ g
theorem LO.lt {B w : World} {m : Tm} {ai : Option Addr} {ci : Nat} {ao : Option Addr} {co : Nat} (h : LO B w m ai ci ao co) : LT w m ai ci ao co := ⟨h.xi.read, h.xo.read⟩
theorem LO.below {B w W : World} {m : Tm} {ai : Option Addr} {ci : Nat} {ao : Option Addr} {co : Nat} (h : LO B w m ai ci ao co) (b : Below w.heap.size w W) : LO B W m ai ci ao co := ⟨h.xi.below b, h.fi, h.xo.below b, h.fo⟩
theorem LO.setRow {B w : World} {m : Tm} {ai : Option Addr} {ci : Nat} {ao : Option Addr} {co : Nat} (h : LO B w m ai ci ao co) (g : Nat) (hg : g < B.heap.size) (c : Array Value) : LO B (w.setRow g c) m ai ci ao co := ⟨h.xi.of_block fun k hk => setRow_other _ _ _ _ (by have := h.fi k hk; omega), h.fi, h.xo.of_block fun k hk => setRow_other _ _ _ _ (by have := h.fo k hk; omega), h.fo⟩
/-- While a transaction is taken. -/
structure Ptx (w W : World) (b : Nat) (t : ByteArray) (n : Nat) (e : Int) (m : Tm) (ai : Option Addr) (ci : Nat) (ao : Option Addr) (co : Nat) : Prop where
  px : Px w W b t
  rd : Rd W b t n e
  r1 : W.heap[w.heap.size + 1]? = some (.cells (zT.cells none 0 none 0) 26 (0, 0))
  r2 : W.heap[w.heap.size + 1 + 1]? = some (.cells (m.cells ai ci ao co) 26 (0, 0))
  xi : OX KA W (.slice ai m.ins.length ci) m.ins
  fi : ∀ g, (Value.slice ai m.ins.length ci).ownBlock = some g → w.heap.size + 1 + 1 < g
  xo : OX KO W (.slice ao m.outs.length co) m.outs
  fo : ∀ g, (Value.slice ao m.outs.length co).ownBlock = some g → w.heap.size + 1 + 1 < g
section
variable {w W W' : World} {b : Nat} {t : ByteArray} {n n' : Nat} {e e' : Int} {m : Tm} {ai : Option Addr} {ci : Nat} {ao : Option Addr} {co : Nat}
theorem Ptx.step (h : Ptx w W b t n e m ai ci ao co) (r : Rd W' b t n' e') (f : Rfr b W W') : Ptx w W' b t n' e' m ai ci ao co := by
  have := h.px.lt
  exact ⟨h.px.step f, r, (f.block _ (lt_heap h.r1) (by omega)).trans h.r1, (f.block _ (lt_heap h.r2) (by omega)).trans h.r2, h.xi.keep f (fun g hg => by have := h.fi g hg; omega), h.fi, h.xo.keep f (fun g hg => by have := h.fo g hg; omega), h.fo⟩
theorem Ptx.set (h : Ptx w W b t n e m ai ci ao co) (m' : Tm) (ai' : Option Addr) (ci' : Nat) (ao' : Option Addr) (co' : Nat) (i : Nat) (v : Value) (hy : (m.cells ai ci ao co).setIfInBounds i v = m'.cells ai' ci' ao' co')
    (xi : OX KA W (.slice ai' m'.ins.length ci') m'.ins) (fi : ∀ g, (Value.slice ai' m'.ins.length ci').ownBlock = some g → w.heap.size + 1 + 1 < g) (xo : OX KO W (.slice ao' m'.outs.length co') m'.outs) (fo : ∀ g, (Value.slice ao' m'.outs.length co').ownBlock = some g → w.heap.size + 1 + 1 < g) :
    Ptx w (W.setCell ⟨w.heap.size + 1 + 1, i, none⟩ v) b t n e m' ai' ci' ao' co' := by
  have := h.px.lt
  refine ⟨h.px.set _ _ _ (by omega), h.rd.via (Rfr.setCell _ W i v) (by omega), (blk_setCell_ne W _ i _ v (by omega)).trans h.r1, ?_, xi.keep (Rfr.setCell _ W i v) (fun g hg => by have := fi g hg; omega), fi, xo.keep (Rfr.setCell _ W i v) (fun g hg => by have := fo g hg; omega), fo⟩
  rw [heap_setCell_same W _ i _ _ v h.r2, hy]
theorem Ptx.c (h : Ptx w W b t n e m ai ci ao co) (i : Nat) (v : Value) (hv : (m.cells ai ci ao co)[i]? = some v) : W.cell? ⟨w.heap.size + 1 + 1, i, none⟩ = some v ∧ W.frozen? ⟨w.heap.size + 1 + 1, i, none⟩ = false := ⟨by rw [cell_of_row _ _ _ _ _ _ h.r2]; exact hv, frozen_of_row W _ _ _ _ h.r2⟩
theorem Ptx.sz (h : Ptx w W b t n e m ai ci ao co) : w.heap.size + 1 + 1 < W.heap.size := lt_heap h.r2
end
theorem Tk.tx {t : ByteArray} {n n1 n2 n3 n4 : Nat} {e e1 e2 e3 e4 : Int} {v1 : UInt32} {L1 : List Ti} {L2 : List Tu} {v4 : UInt32} (a : Tk (fun v : UInt32 => lowL v.toNat 4) (fun _ => True) t n e v1 n1 e1) (b : Tk (fun l : List Ti => countL l.length ++ (l.map Ti.bytes).flatten) (fun l => l.length ≤ 4096 ∧ ∀ z ∈ l, Ti.ok z) t n1 e1 L1 n2 e2) (c : Tk (fun l : List Tu => countL l.length ++ (l.map Tu.bytes).flatten) (fun l => l.length ≤ 4096 ∧ ∀ z ∈ l, Tu.ok z) t n2 e2 L2 n3 e3) (d : Tk (fun v : UInt32 => lowL v.toNat 4) (fun _ => True) t n3 e3 v4 n4 e4) : Tk Tm.bytes Tm.ok t n e ⟨v1, L1, L2, v4⟩ n4 e4 :=
  (a.seq (b.seq (c.seq d))).conv (fun p => (⟨p.1, p.2.1, p.2.2.1, p.2.2.2⟩ : Tm)) (fun z _ => rfl) (fun z hz => ⟨hz.2.1, hz.2.2.1⟩) (fun y hy => ⟨(y.ver, y.ins, y.outs, y.time), rfl, trivial, hy.1, hy.2, trivial⟩)
section
set_option maxRecDepth 10000
set_option maxHeartbeats 4000000
variable {w : World} {b : Nat} {t : ByteArray} {n : Nat} {e : Int}
theorem ttx_any (h : Rd w b t n e) (hs : t.size ≤ maxLen) : Calls Try.prog 33 #[px b t] w fun r w' => ∃ (m : Tm) (ai : Option Addr) (ci : Nat) (ao : Option Addr) (co : Nat) (n' : Nat) (e' : Int), r = .returned (.agg (m.cells ai ci ao co)) ∧ LO w w' m ai ci ao co ∧ m.ok ∧ Rd w' b t n' e' ∧ Rfr b w w' ∧ Tk Tm.bytes Tm.ok t n e m n' e' := by
  have b3 := below3 w (.cells #[.string t, .pointer (some ⟨b, 0, none⟩)] 82) (.cells (zT.cells none 0 none 0) 26) (.cells (zT.cells none 0 none 0) 26)
  obtain ⟨x0, x1, x2⟩ := blk3 w (.cells #[.string t, .pointer (some ⟨b, 0, none⟩)] 82) (.cells (zT.cells none 0 none 0) 26) (.cells (zT.cells none 0 none 0) 26)
  have P0 : Hid (Ptx w _ b t n e zT none 0 none 0) := ⟨⟨Rfr.below b3, x0, h.st.lt⟩, h.below b3, x1, x2, OX.nil _, (fun g hg => by cases hg), OX.nil _, (fun g hg => by cases hg)⟩
  have HN : Hid (∀ W n e, Rd W b t n e → Calls Try.prog 42 #[.agg #[.string t, .pointer (some ⟨b, 0, none⟩)]] W fun r w' => ∃ (v : UInt32) (n' : Nat) (e' : Int), r = .returned (.int .u32 (v.toNat : Int)) ∧ Rd w' b t n' e' ∧ Rfr b W w' ∧ Tk (fun v : UInt32 => lowL v.toNat 4) (fun _ => True) t n e v n' e') := fun W n e g => tnumber_any g hs
  have HI := hide (fun W n e (g : Rd W b t n e) => takeIns_any g hs)
  have HO := hide (fun W n e (g : Rd W b t n e) => takeOuts_any g hs)
  clear h hs b3 x0 x1 x2
  unfold px at *
  have sz1 : (w.alloc (.cells #[.string t, .pointer (some ⟨b, 0, none⟩)] 82)).heap.size = w.heap.size + 1 := by simp
  have sz2 : ((w.alloc (.cells #[.string t, .pointer (some ⟨b, 0, none⟩)] 82)).alloc (.cells (zT.cells none 0 none 0) 26)).heap.size = w.heap.size + 1 + 1 := by simp
  go_enter Try.func33, Try.ntmps33
  go_upto_region 2 with ((with_reducible refine at_list ?_); refine wpList_allocA AT rfl rfl ?_)
  try rw [sz1]
  try rw [sz2]
  clear sz1 sz2
  generalize ((w.alloc (.cells #[.string t, .pointer (some ⟨b, 0, none⟩)] 82)).alloc (.cells (zT.cells none 0 none 0) 26)).alloc (.cells (zT.cells none 0 none 0) 26) = A at *
  go_upto_region 3 with (first | (go_at_call 42; refine (HN.out _ _ _ P0.out.rd).mono ?_; rintro r W1 ⟨v1, n1, e1, rfl, g1, f1, t1⟩; have P1 := hide (P0.out.step g1 f1); have T1 := hide t1; clear g1 f1 t1; obtain ⟨c3, f3⟩ := P1.out.c 0 (.int .u32 0) rfl) | ((with_reducible refine at_list ?_); refine wpList_loadS APx _ rfl w.heap.size rfl #[.string t, .pointer (some ⟨b, 0, none⟩)] rfl 82 P0.out.px.row (by rfl) ?_))
  have P2 := hide (P1.out.set ⟨v1, [], [], 0⟩ none 0 none 0 0 (.int .u32 (v1.toNat : Int)) rfl (OX.nil _) (fun g hg => by cases hg) (OX.nil _) (fun g hg => by cases hg))
  generalize W1.setCell ⟨w.heap.size + 1 + 1, 0, none⟩ (.int .u32 (v1.toNat : Int)) = W2 at *
  clear P0 P1 c3 f3
  go_upto_region 4 with (first | (go_at_call 43; refine (HI.out _ _ _ P2.out.rd).mono ?_; rintro r W3 ⟨L1, ai, ci, n2, e2, rfl, x1, y1, z1, g1, f1, t1⟩; have P3 := hide (P2.out.step g1 f1); have X3 := hide (And.intro x1 (fun g hg => Nat.lt_trans P2.out.sz (y1 g hg))); have Z3 := hide z1; have T2 := hide t1; clear g1 f1 t1 x1 y1 z1; obtain ⟨c3, f3⟩ := P3.out.c 1 (.slice none 0 0) rfl) | ((with_reducible refine at_list ?_); refine wpList_loadS APx _ rfl w.heap.size rfl #[.string t, .pointer (some ⟨b, 0, none⟩)] rfl 82 P2.out.px.row (by rfl) ?_))
  have P4 := hide (P3.out.set ⟨v1, L1, [], 0⟩ ai ci none 0 1 (.slice ai L1.length ci) rfl X3.out.1 X3.out.2 (OX.nil _) (fun g hg => by cases hg))
  generalize W3.setCell ⟨w.heap.size + 1 + 1, 1, none⟩ (.slice ai L1.length ci) = W4 at *
  clear P2 P3 c3 f3 X3
  go_upto_region 5 with (first | (go_at_call 45; refine (HO.out _ _ _ P4.out.rd).mono ?_; rintro r W5 ⟨L2, ao, co, n3, e3, rfl, x1, y1, z1, g1, f1, t1⟩; have P5 := hide (P4.out.step g1 f1); have X5 := hide (And.intro x1 (fun g hg => Nat.lt_trans P4.out.sz (y1 g hg))); have Z5 := hide z1; have T3 := hide t1; clear g1 f1 t1 x1 y1 z1; obtain ⟨c3, f3⟩ := P5.out.c 2 (.slice none 0 0) rfl) | ((with_reducible refine at_list ?_); refine wpList_loadS APx _ rfl w.heap.size rfl #[.string t, .pointer (some ⟨b, 0, none⟩)] rfl 82 P4.out.px.row (by rfl) ?_))
  have P6 := hide (P5.out.set ⟨v1, L1, L2, 0⟩ ai ci ao co 2 (.slice ao L2.length co) rfl P5.out.xi P5.out.fi X5.out.1 X5.out.2)
  generalize W5.setCell ⟨w.heap.size + 1 + 1, 2, none⟩ (.slice ao L2.length co) = W6 at *
  clear P4 P5 c3 f3 X5
  go_upto_region 6 with (first | (go_at_call 42; refine (HN.out _ _ _ P6.out.rd).mono ?_; rintro r W7 ⟨v4, n4, e4, rfl, g1, f1, t1⟩; have P7 := hide (P6.out.step g1 f1); have T4 := hide t1; clear g1 f1 t1; obtain ⟨c3, f3⟩ := P7.out.c 3 (.int .u32 0) rfl) | ((with_reducible refine at_list ?_); refine wpList_loadS APx _ rfl w.heap.size rfl #[.string t, .pointer (some ⟨b, 0, none⟩)] rfl 82 P6.out.px.row (by rfl) ?_))
  have P8 := hide (P7.out.set ⟨v1, L1, L2, v4⟩ ai ci ao co 3 (.int .u32 (v4.toNat : Int)) rfl P7.out.xi P7.out.fi P7.out.xo P7.out.fo)
  generalize W7.setCell ⟨w.heap.size + 1 + 1, 3, none⟩ (.int .u32 (v4.toNat : Int)) = W8 at *
  clear P6 P7 c3 f3
  have HTK := hide (T1.out.tx T2.out T3.out T4.out)
  have HOK : Hid (Tm.ok ⟨v1, L1, L2, v4⟩) := ⟨Z3.out, Z5.out⟩
  clear T1 T2 T3 T4 Z3 Z5
  generalize (⟨v1, L1, L2, v4⟩ : Tm) = m at *
  go_wp2_with ((with_reducible refine at_list ?_); first | (refine wpList_loadA AT rfl _ rfl (w.heap.size + 1 + 1) rfl (m.cells ai ci ao co) rfl 26 P8.out.r2 ?_) | (refine wpList_storeA AT rfl _ _ rfl (w.heap.size + 1) (m.cells ai ci ao co) rfl (m.one _ _ _ _) rfl rfl (zT.cells none 0 none 0) rfl 26 P8.out.r1 ?_))
  have hlt := P8.out.px.lt
  refine bodyPost_ret (v := .agg (m.cells ai ci ao co)) (resA AT Try.results33 _ _ (w.heap.size + 1) 26 _ rfl rfl (setRow_heap _ _ _ _ _ _ P8.out.r1)) rfl ⟨m, ai, ci, ao, co, n4, e4, rfl, ⟨?_, ?_, ?_, ?_⟩, HOK.out, ⟨P8.out.rd.le, P8.out.rd.lt, P8.out.rd.st.setRow _ (by omega) _⟩, P8.out.px.fr.setRow _ (by omega) _, HTK.out⟩
  · exact P8.out.xi.of_block fun g hg => setRow_other _ _ _ _ (by have := P8.out.fi g hg; omega)
  · exact fun g hg => by have := P8.out.fi g hg; omega
  · exact P8.out.xo.of_block fun g hg => setRow_other _ _ _ _ (by have := P8.out.fo g hg; omega)
  · exact fun g hg => by have := P8.out.fo g hg; omega
end
end Go.Proofs.Ytkbfcfmjbgnhcaa
