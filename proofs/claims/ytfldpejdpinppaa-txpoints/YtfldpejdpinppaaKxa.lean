/- tx.Points, tx.Pairs: their contracts. -/
import Derived.Test.YtfldpejdpinppaaKu
import Derived.Test.YtfldpejdpinppaaKo
namespace Go.Proofs.Ytfldpejdpinppaa
open Go.RowKit
open Go.Deep
set_option linter.unusedVariables false
def KPt : Ek Tp := ⟨53, 58, 33, 36, Tp.cells, by decide, by decide, Try.underlying53, by kernel_rfl, Tp.len, Tp.one⟩
def zTp : Tp := ⟨zeros, 0, zeros_len⟩
theorem APt : Arr 58 33 zTp.cells.toArray := ⟨.inr ⟨_, Try.underlying58⟩, by kernel_rfl, fun w => by kernel_rfl, fun w => by kernel_rfl, by rw [List.size_toArray, Tp.len]⟩
theorem Tp.size (x : Tp) : x.cells.toArray.size = 33 := by rw [List.size_toArray, x.len]
theorem Tp.all (x : Tp) : x.cells.toArray.all (·.oneCell') = true := by
  rw [Array.all_eq_true_iff_forall_mem]
  intro v hv
  exact x.one v (by simpa using hv)
theorem Ti.ptAt {W : World} {g off : Nat} (x : Ti) (h : W.rangeAt g off x.cells) : W.rangeAt g off x.pt.cells := fun j v hv => by
  refine h j v ?_
  have hj := (List.getElem?_eq_some_iff.1 hv).1
  rw [Tp.len] at hj
  have hl : (cellsL x.hash).length = 32 := by rw [cellsL_len, x.hh]
  have hl2 : (cellsL x.pt.hash).length = 32 := hl
  rw [← hv, Ti.cells, Tp.cells]
  by_cases h32 : j < 32
  · rw [List.getElem?_append_left (by omega), List.getElem?_append_left (by omega)]
    rfl
  · have : j = 32 := by omega
    subst this
    rw [List.getElem?_append_right (by omega), List.getElem?_append_right (by omega), hl, hl2]
    rfl
theorem rowAt {W : World} {g : Nat} {t : TypeId} (cs : List Value) (h : W.heap[g]? = some (.cells cs.toArray t (0, 0))) : W.rangeAt g 0 cs := fun j v hv => by
  rw [cell_of_row _ _ _ _ _ _ h, List.getElem?_toArray, Nat.zero_add]
  exact hv
theorem bld_Pt (x : Tp) (W : World) : (Instr.build 58 #[(0, .agg (hc x.hash)), (1, .int .u32 (x.idx.toNat : Int))]).run Try.prog W = .ok (.agg x.cells.toArray) W := by
  obtain ⟨h, i, hh⟩ := x
  obtain ⟨_, _, _, _, _, _, _, _, _, _, _, _, _, _, _, _, _, _, _, _, _, _, _, _, _, _, _, _, _, _, _, _, rfl⟩ := id32' h hh
  kernel_rfl
section
variable {α : Type} {w : World} {ops : Array Oper} {rest : List Oper} {o : Oper} {a : Act} {Q : Exit → Act → World → Prop}
theorem wpLoadP (x : Operand) (ho : o.op = .load 58 x) (g off : Nat) (hx : a.eval x = .pointer (some ⟨g, off, none⟩)) (y : Tp) (hr : w.rangeAt g off y.cells) (hw : Region.wanted o (yielded ops a.tmps) = true)
    (h : wpList Try.prog ops Q rest (a.put o.dst (.agg y.cells.toArray)) w) : wpList Try.prog ops Q (o :: rest) a w := wpLoadX KPt Try.underlying58 rfl x ho g off hx y hr hw h
/-- A slice with room alone. -/
theorem Ek.wpMake (E : Ek α) (hgd : o.guard = none) (l c : Operand) (hop : o.op = .makeSlice E.t l c) (kl kc : IntKind) (n : Nat) (hl : a.eval l = .int kl 0) (hc : a.eval c = .int kc (n : Int)) (hb : E.b * n ≤ 281474976710656) (h63 : n ≤ maxLen)
    (h : ∀ w', OX E w' (.slice (some ⟨w.heap.size, 0, none⟩) 0 n) [] → Below w.heap.size w w' → wpList Try.prog ops Q rest (a.put o.dst (.slice (some ⟨w.heap.size, 0, none⟩) 0 n)) w') : wpList Try.prog ops Q (o :: rest) a w := by
  refine wpList_plain hgd fun K hK => ?_
  obtain ⟨i, z, hi, hz, hzs, hs, hby⟩ := E.parts
  obtain ⟨w', hr, h1, h2⟩ := run_make_own (P := Try.prog) w 0 E.t E.e i z E.k E.sl hi hz hs kl kc n (by rw [hby]; exact hb) h63 (Nat.zero_le _)
  unfold Oper.wp
  simp only [execOp, hop, hl, hc, hr, Sem.run_bind, Result.andThen_ok, Sem.run_pure]
  exact hK _ _ (h w' h1 ⟨h2.os, h2.tape, h2.output, h2.size, fun k hk => h2.block k hk (fun e => by cases e)⟩)
/-- An append where there is room. -/
theorem Ek.wpAppIn (E : Ek α) (hgd : o.guard = none) (x y : Operand)
    (ho : o.op = .call { callee := .builtin .append, args := #[x, y], argTypes := #[E.t, E.t] })
    (g n cap : Nat) (L : List α) (hx : a.eval x = .slice (some ⟨g, 0, none⟩) n cap) (hn : n = L.length) (hown : OX E w (.slice (some ⟨g, 0, none⟩) n cap) L)
    (ad : Addr) (e : α) (hy : a.eval y = .slice (some ad) 1 1) (hnews : ∀ j u, (flatE E [e])[j]? = some u → w.cell? (ad.add j) = some u) (hroom : n + 1 ≤ cap)
    (h : ∀ w', OX E w' (.slice (some ⟨g, 0, none⟩) (n + 1) cap) (L ++ [e]) → Onto w w' (.slice (some ⟨g, 0, none⟩) n cap) (.slice (some ⟨g, 0, none⟩) (n + 1) cap) → wpList Try.prog ops Q rest (a.put o.dst (.slice (some ⟨g, 0, none⟩) (n + 1) cap)) w') :
    wpList Try.prog ops Q (o :: rest) a w := by
  obtain ⟨i, z, hi, hz, hzs, hs, hby⟩ := E.parts
  subst hn
  refine wpList_append_own_spare (P := Try.prog) w hgd x y E.t ho 0 E.e i E.k E.sl hi hs g L.length cap (flatE E L) hx hown ad 1 1 (flatE E [e]) hy (by rw [flatE_len]; simp) hnews (flatE_cell E [e]) hroom fun w' h1 h2 => h w' ?_ ⟨h2, .inl rfl⟩
  unfold OX
  rw [List.length_append, flatE_app]
  exact h1
end
/-- A list of points while it is made. -/
structure Pj (W0 W : World) (v : Value) (L : List Tp) : Prop where
  bel : Below W0.heap.size W0 W
  ox : OX KPt W v L
  far : ∀ g, v.ownBlock = some g → W0.heap.size ≤ g
theorem Pj.next {W0 W W' : World} {v : Value} {L : List Tp} (h : Pj W0 W v L) (b : Below W.heap.size W W') : Pj W0 W' v L := ⟨below_next h.bel b, h.ox.below b, h.far⟩
theorem Pj.app {W0 W W' : World} {v v' : Value} {L L' : List Tp} (h : Pj W0 W v L) (o : Obj) (q : OX KPt W' v' L') (on : Onto (W.alloc o) W' v v') : Pj W0 W' v' L' := by
  have hsz : (W.alloc o).heap.size = W.heap.size + 1 := by simp
  have hle := h.bel.size
  have g := on.grown
  have ba : Below W.heap.size W (W.alloc o) := (Below.refl _ _).alloc (Nat.le_refl _) _
  refine ⟨⟨(g.os.trans ba.os).trans h.bel.os, (g.tape.trans ba.tape).trans h.bel.tape, (g.output.trans ba.output).trans h.bel.output, ?_, fun k k1 => ((g.block k (by omega) (fun e => by have := h.far k e.symm; omega)).trans (Below.heap_alloc W o k (by omega))).trans (h.bel.block k k1)⟩, q, fun b hb => ?_⟩
  · have := g.size
    omega
  · rcases on.lies with r | ⟨c, r, hc⟩
    · exact h.far b (by rw [← r]; exact hb)
    · rw [r] at hb
      cases hb
      omega
section
set_option maxRecDepth 10000
set_option maxHeartbeats 4000000
theorem points_any (m : Tm) (ai : Option Addr) (ci : Nat) (ao : Option Addr) (co : Nat) (w : World) (hl : LT w m ai ci ao co) (hf : m.fit) : Calls Try.prog 19 #[.agg (m.cells ai ci ao co)] w fun e w' => ∃ (bi : Option Addr) (di : Nat), e = .returned (.slice bi m.ins.length di) ∧ LX KPt w' (.slice bi m.ins.length di) (m.ins.map Ti.pt) ∧ Below w.heap.size w w' := by
  have b1 := (Below.refl w.heap.size w).alloc (Nat.le_refl _) (.cells (m.cells ai ci ao co) 26)
  have r1 := heap_alloc_last w (.cells (m.cells ai ci ao co) 26)
  have CC : Hid (∀ W, Below (w.alloc (.cells (m.cells ai ci ao co) 26)).heap.size (w.alloc (.cells (m.cells ai ci ao co) 26)) W → W.cell? ⟨w.heap.size, 1, none⟩ = some (.slice ai m.ins.length ci)) := fun W b => by rw [cell_of_row _ _ _ _ _ _ ((b.block _ (lt_heap r1)).trans r1)]; rfl
  have HL := hide (hl.below b1).i
  have HF := hide hf.i
  have B1 := hide b1
  clear b1 r1 hl hf
  generalize m.cells ai ci ao co = C at *
  go_enter Try.func19, Try.ntmps19
  go_upto_region 1 with ((with_reducible refine at_list ?_); refine wpList_boxA rfl _ rfl C rfl ?_)
  generalize w.alloc (.cells C 26) = W0 at *
  have c1 := CC.out _ (Below.refl _ _)
  go_upto_region 2 with ((with_reducible refine at_list ?_); refine Ek.wpMake KPt rfl _ _ rfl .i64 .i64 m.ins.length rfl rfl (by have := HF.out; show 36 * m.ins.length ≤ _; omega) (by have := HF.out; unfold maxLen; omega) ?_; intro W1 ox1 b2; have OX1 := hide ox1; have B2 := hide b2; clear ox1 b2)
  clear c1
  have c2 := CC.out _ B2.out
  have J0 : Hid (Pj W0 W1 (.slice (some ⟨W0.heap.size, 0, none⟩) 0 m.ins.length) []) := ⟨B2.out, OX1.out, fun g hg => by cases hg; exact Nat.le_refl _⟩
  go_upto_region 3 with fail
  clear c2 OX1 B2
  go_loopw [3, 13] (fun v i wr => ∃ (k : Nat) (bi : Option Addr) (di N : Nat), k ≤ m.ins.length ∧ i = .int .i64 (k : Int) ∧ v = .slice bi N di ∧ Hid (N = k ∧ Pj W0 wr (.slice bi N di) ((m.ins.take k).map Ti.pt))) (fun _ i _ => (m.ins.length - intOf i).toNat)
  case atStart => exact ⟨0, some ⟨W0.heap.size, 0, none⟩, m.ins.length, 0, Nat.zero_le _, rfl, rfl, rfl, J0.out⟩
  case round =>
    clear J0
    obtain ⟨k, bi, di, N, hk, rfl, rfl, J⟩ := hrel
    by_cases hlt : k < m.ins.length
    · have h1 : (k : Int) < (m.ins.length : Int) := by omega
      have h2 : (0 : Int) ≤ (k : Int) := by omega
      have h5 := HF.out
      have e1 : IntKind.i64.wrap ((k : Int) + 1) = k + 1 := wrapI _ (by omega) (by omega)
      have KK := hide (And.intro (show k + 1 ≤ m.ins.length by omega) (show ((m.ins.length : Int) - ((k : Int) + 1)).toNat < ((m.ins.length : Int) - (k : Int)).toNat by omega))
      obtain ⟨ga, oa, rfl⟩ := HL.out.base (by omega)
      have RG : Hid (wr.rangeAt ga (oa + k * 35) m.ins[k].cells) := (HL.out.below J.out.2.bel).range k hlt
      have TK : Hid ((m.ins.take k).map Ti.pt ++ [m.ins[k].pt] = (m.ins.take (k + 1)).map Ti.pt) := by
        show _ = _
        rw [← List.take_append_getElem hlt, List.map_append]
        rfl
      have TL := hide (show ((m.ins.take k).map Ti.pt).length = k by rw [List.length_map, List.length_take]; omega)
      have KB := hide (show (k + 1) * 64 ≤ 140737488355328 by omega)
      generalize m.ins[k] = x at *
      generalize (m.ins.take k).map Ti.pt = P at *
      clear hk hlt h5
      go_upto_region 5 with ((with_reducible refine at_list ?_); first | refine wpLoadI _ rfl ga (oa + k * 35) rfl x RG.out (by rfl) ?_ | refine wpList_allocA AI rfl rfl ?_ | refine wpList_store_newA AI rfl _ _ rfl _ rfl x.cells.toArray x.size x.all rfl rfl ?_)
      have J2 := hide (J.out.2.next ((Below.refl _ _).alloc (Nat.le_refl _) (.cells x.cells.toArray 60)))
      have RP := hide (x.ptAt (rowAt _ (heap_alloc_last wr (.cells x.cells.toArray 60))))
      have JN := hide J.out.1
      clear J RG
      generalize wr.alloc (.cells x.cells.toArray 60) = W2 at *
      generalize wr.heap.size = g5 at *
      go_wp2_with (first | ((with_reducible refine at_list ?_); first | refine wpLoadP _ rfl g5 0 rfl x.pt RP.out (by rfl) ?_ | refine Ek.wpBs1 KPt rfl _ rfl x.pt rfl ?_) | (at_builtin; refine Ek.wpApp KPt rfl _ _ rfl _ P rfl (J2.out.ox.below ((Below.refl _ _).alloc (Nat.le_refl _) _)) ⟨_, 0, none⟩ 1 1 [x.pt] rfl rfl (one_newX _ x.pt) (by have := TL.out; have := KB.out; show (P.length + 1) * 36 ≤ _; omega) (by have := TL.out; have := KB.out; unfold maxLen; omega) ?_; intro v' W4 o4 on4; obtain ⟨ao4, co4, rfl⟩ := o4.form; have J4 := hide (And.intro (show (P ++ [x.pt]).length = k + 1 by rw [List.length_append, TL.out]; rfl) (J2.out.app _ o4 on4)); clear o4 on4; generalize (P ++ [x.pt]).length = M at *))
      refine ⟨⟨k + 1, ao4, co4, M, KK.out.1, by go_num, rfl, J4.out.1, ?_⟩, by simpa [intOf] using KK.out.2⟩
      have := J4.out.2
      rw [TK.out] at this
      exact this
    · have h1 : ¬ (k : Int) < (m.ins.length : Int) := by omega
      have hN : N = m.ins.length := by rw [J.out.1]; omega
      rw [List.take_of_length_le (by omega)] at J
      clear hk hlt
      go_wp2
      go_ret
      subst hN
      exact ⟨bi, di, rfl, J.out.2.ox.read, B1.out.trans (J.out.2.bel.mono B1.out.size)⟩
/-- The points of so many outputs. -/
def pairL (id : Id32) (k : Nat) : List Tp := (List.range k).map fun i => ⟨id.1, UInt32.ofNat i, id.2⟩
theorem pairL_succ (id : Id32) (k : Nat) : pairL id (k + 1) = pairL id k ++ [⟨id.1, UInt32.ofNat k, id.2⟩] := by simp [pairL, List.range_succ]
theorem pairL_len (id : Id32) (k : Nat) : (pairL id k).length = k := by simp [pairL]
theorem pairs_any (id : Id32) (m : Tm) (ai : Option Addr) (ci : Nat) (ao : Option Addr) (co : Nat) (w : World) (hl : LT w m ai ci ao co) (hf : m.fit) : Calls Try.prog 20 #[.agg (hc id.1), .agg (m.cells ai ci ao co)] w fun e w' => ∃ (bi : Option Addr) (di : Nat), e = .returned (.slice bi m.outs.length di) ∧ LX KPt w' (.slice bi m.outs.length di) (pairL id m.outs.length) ∧ Below w.heap.size w w' := by
  have e1 := heap_alloc_last w (.cells (hc id.1) 52)
  have r1 := (Below.heap_alloc _ (.cells (m.cells ai ci ao co) 26) _ (lt_heap e1)).trans e1
  have r2 := heap_alloc_last (w.alloc (.cells (hc id.1) 52)) (.cells (m.cells ai ci ao co) 26)
  have hsz : (w.alloc (.cells (hc id.1) 52)).heap.size = w.heap.size + 1 := by simp
  rw [hsz] at r2
  have b0 : Below w.heap.size w ((w.alloc (.cells (hc id.1) 52)).alloc (.cells (m.cells ai ci ao co) 26)) := ((Below.refl _ _).alloc (Nat.le_refl _) _).alloc (by simp) _
  have CC : Hid (∀ W, Below ((w.alloc (.cells (hc id.1) 52)).alloc (.cells (m.cells ai ci ao co) 26)).heap.size ((w.alloc (.cells (hc id.1) 52)).alloc (.cells (m.cells ai ci ao co) 26)) W → W.cell? ⟨w.heap.size + 1, 2, none⟩ = some (.slice ao m.outs.length co) ∧ W.rangeAt w.heap.size 0 (cellsL id.1)) := fun W b => ⟨by rw [cell_of_row _ _ _ _ _ _ ((b.block _ (lt_heap r2)).trans r2)]; rfl, rowAt _ ((b.block _ (lt_heap r1)).trans r1)⟩
  have HF := hide hf.o
  have B1 := hide b0
  clear e1 r1 r2 b0 hl hf
  generalize m.cells ai ci ao co = C at *
  go_enter Try.func20, Try.ntmps20
  go_upto_region 1 with ((with_reducible refine at_list ?_); first | refine wpList_boxA rfl _ rfl (hc id.1) rfl ?_ | refine wpList_boxA rfl _ rfl C rfl ?_)
  try rw [hsz]
  clear hsz
  generalize (w.alloc (.cells (hc id.1) 52)).alloc (.cells C 26) = W0 at *
  have c1 := (CC.out _ (Below.refl _ _)).1
  go_upto_region 2 with ((with_reducible refine at_list ?_); refine Ek.wpMake KPt rfl _ _ rfl .i64 .i64 m.outs.length rfl rfl (by have := HF.out; show 36 * m.outs.length ≤ _; omega) (by have := HF.out; unfold maxLen; omega) ?_; intro W1 ox1 b2; have OX1 := hide ox1; have B2 := hide b2; clear ox1 b2)
  clear c1
  have c2 := (CC.out _ B2.out).1
  have J0 : Hid (Pj W0 W1 (.slice (some ⟨W0.heap.size, 0, none⟩) 0 m.outs.length) []) := ⟨B2.out, OX1.out, fun g hg => by cases hg; exact Nat.le_refl _⟩
  go_upto_region 3 with fail
  clear c2 OX1 B2
  have PL0 : Hid (pairL id 0 = []) := rfl
  go_loopw [5, 14] (fun v i wr => ∃ k : Nat, k ≤ m.outs.length ∧ i = .int .i64 (k : Int) ∧ v = .slice (some ⟨W0.heap.size, 0, none⟩) k m.outs.length ∧ Hid (Pj W0 wr (.slice (some ⟨W0.heap.size, 0, none⟩) k m.outs.length) (pairL id k))) (fun _ i _ => (m.outs.length - intOf i).toNat)
  case atStart => exact ⟨0, Nat.zero_le _, rfl, rfl, J0.out⟩
  case round =>
    clear J0
    obtain ⟨k, hk, rfl, rfl, J⟩ := hrel
    by_cases hlt : k < m.outs.length
    · have h1 : (k : Int) < (m.outs.length : Int) := by omega
      have h2 : (0 : Int) ≤ (k : Int) := by omega
      have h5 := HF.out
      have e1 : IntKind.i64.wrap ((k : Int) + 1) = k + 1 := wrapI _ (by omega) (by omega)
      have e2 : IntKind.u32.wrap (k : Int) = ((UInt32.ofNat k).toNat : Int) := by rw [IntKind.wrap_u32, UInt32.toNat_ofNat']; omega
      have KK := hide (And.intro (show k + 1 ≤ m.outs.length by omega) (show ((m.outs.length : Int) - ((k : Int) + 1)).toNat < ((m.outs.length : Int) - (k : Int)).toNat by omega))
      have RH := hide (CC.out _ J.out.bel).2
      have TK := hide (pairL_succ id k)
      have TL := hide (pairL_len id k)
      obtain ⟨x, hx⟩ : ∃ x : Tp, x = ⟨id.1, UInt32.ofNat k, id.2⟩ := ⟨_, rfl⟩
      have XH : Hid (x.hash = id.1 ∧ x.idx = UInt32.ofNat k) := ⟨by rw [hx], by rw [hx]⟩
      rw [← hx] at TK
      have BL : Hid (∀ W, (Instr.build 58 #[(0, .agg (hc id.1)), (1, .int .u32 ((UInt32.ofNat k).toNat : Int))]).run Try.prog W = .ok (.agg x.cells.toArray) W) := fun W => by
        have := bld_Pt x W
        rw [XH.out.1, XH.out.2] at this
        exact this
      generalize pairL id k = P at *
      generalize (UInt32.ofNat k).toNat = ku at *
      clear hk hlt h5 hx
      go_wp2_with (first | ((with_reducible refine at_list ?_); first | refine wpLoadHash _ rfl w.heap.size 0 rfl id.1 id.2 RH.out (by rfl) ?_ | refine wpList_bldX rfl _ rfl #[(0, .agg (hc id.1)), (1, .int .u32 (ku : Int))] x.cells.toArray (by simp only [List.map_toArray, List.map_cons, List.map_nil]; rfl) BL.out ?_ | refine Ek.wpBs1 KPt rfl _ rfl x rfl ?_) | (at_builtin; refine Ek.wpAppIn KPt rfl _ _ rfl W0.heap.size k m.outs.length P rfl TL.out.symm (J.out.ox.below ((Below.refl _ _).alloc (Nat.le_refl _) _)) ⟨_, 0, none⟩ x rfl (one_newX _ x) KK.out.1 ?_; intro W4 o4 on4; have J4 := hide (J.out.app _ o4 on4); clear o4 on4))
      refine ⟨⟨k + 1, KK.out.1, by go_num, rfl, ?_⟩, by simpa [intOf] using KK.out.2⟩
      have := J4.out
      rw [← TK.out] at this
      exact this
    · have h1 : ¬ (k : Int) < (m.outs.length : Int) := by omega
      have hk2 : k = m.outs.length := by omega
      subst hk2
      clear hk hlt
      go_wp2
      go_ret
      exact ⟨_, _, rfl, J.out.ox.read, B1.out.trans (J.out.bel.mono B1.out.size)⟩
end
end Go.Proofs.Ytfldpejdpinppaa
