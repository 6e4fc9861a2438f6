/- When two points, inputs, outputs are the same; slices.Equal of lists of such: its contracts. tx.Points, tx.Pairs: their contracts. Numbers of 256 bits: the mathematics of words and digits. -/
import Derived.Test.YtcoojkpimbddlaaGreatDoorX07
import Derived.Test.YtcoojkpimbddlaaGreatDoorRows
namespace Go.Proofs.YtcoojkpimbddlaaGreatDoor
open Go.RowKit
open Go.Deep
set_option linter.unusedVariables false
structure Tp where
  hash : List UInt8
  idx : UInt32
  hh : hash.length = 32
  deriving DecidableEq
def Tp.cells (x : Tp) : List Value := cellsL x.hash ++ [.int .u32 (x.idx.toNat : Int)]
theorem Tp.len (x : Tp) : x.cells.length = 33 := by simp [Tp.cells, cellsL_len, x.hh]
theorem Tp.one (x : Tp) : ∀ v ∈ x.cells, v.oneCell' = true := fun v hv => by
  simp only [Tp.cells, List.mem_cons, List.mem_append, List.not_mem_nil, or_false] at hv
  rcases hv with h | rfl
  · exact cellsL_one _ v h
  · rfl
def Ti.pt (x : Ti) : Tp := ⟨x.hash, x.idx, x.hh⟩
theorem Tp.hash_at (x : Tp) : x.cells.toArray.extract 0 (0 + 32) = (cellsL x.hash).toArray := by
  have h : (cellsL x.hash).length = 32 := by rw [cellsL_len, x.hh]
  simp only [Tp.cells, List.extract_toArray, List.extract]
  simp [h]
theorem Tp.idx_at (x : Tp) : x.cells.toArray[32]? = some (.int .u32 (x.idx.toNat : Int)) := by
  have h : (cellsL x.hash).length = 32 := by rw [cellsL_len, x.hh]
  rw [List.getElem?_toArray, Tp.cells, List.getElem?_append_right (by omega), h]; rfl
theorem Ti.hash_at (x : Ti) : x.cells.toArray.extract 0 (0 + 32) = (cellsL x.hash).toArray := by
  have h : (cellsL x.hash).length = 32 := by rw [cellsL_len, x.hh]
  simp only [Ti.cells, List.extract_toArray, List.extract]
  simp [h]
structure FP (t : TypeId) : Prop where
  ex : ∃ f0 f1, Tryz.prog.underlying t = some (.struct #[f0, f1]) ∧ (f0.name ≠ "_" ∧ f1.name ≠ "_") ∧ (f0.offset = 0 ∧ f1.offset = 32) ∧
    Tryz.prog.underlying f0.type = some (.array 32 5) ∧ Tryz.prog.underlying f1.type = some (.int .u32) ∧ (∀ W, (sizeOf f0.type).run Tryz.prog W = .ok 32 W)
  st : Tryz.prog.stoodInHeld t = false
theorem fp_api : FP 160 := ⟨⟨_, _, Tryz.underlying160, ⟨by decide, by decide⟩, ⟨rfl, rfl⟩, Tryz.underlying46, Tryz.underlying31, fun W => by kernel_rfl⟩, by kernel_rfl⟩
theorem Tp.same (x y : Tp) : ((x.hash == y.hash) && (((x.idx.toNat : Int) == (y.idx.toNat : Int)) && true)) = decide (x = y) := by
  rw [Bool.eq_iff_iff]
  simp only [Bool.and_eq_true, beq_iff_eq, decide_eq_true_eq, and_true]
  constructor
  · rintro ⟨h0, h1⟩
    obtain ⟨a, b, _⟩ := x
    obtain ⟨a', b', _⟩ := y
    simp only at h0 h1
    subst h0
    have e0 : b = b' := UInt32.toNat_inj.1 (by omega)
    subst e0
    rfl
  · rintro rfl
    exact ⟨rfl, rfl⟩
theorem eqPt {t : TypeId} (F : FP t) (d : Nat) (x y : Tp) (W : World) : (Op.equalIn (d + 3) t (.agg x.cells.toArray) (.agg y.cells.toArray)).run Tryz.prog W = .ok (decide (x = y)) W := by
  obtain ⟨⟨f0, f1, hu, ⟨n0, n1⟩, ⟨o0, o1⟩, u0, u1, s0⟩, st⟩ := F
  have hf : Tryz.prog.fieldsOf t = #[f0, f1] := by simp [Program.fieldsOf, hu]
  refine (run_equalIn_struct W (d + 2) t _ _ (by rw [hf]; exact hu) st).trans ?_
  rw [hf]
  have e1 := eqF_cons (W := W) (d := d + 2) (xs := x.cells.toArray) (ys := y.cells.toArray) n1 (part_cell u1 rfl (by rw [o1]; exact x.idx_at)) (part_cell u1 rfl (by rw [o1]; exact y.idx_at)) (run_equalIn_int W (d + 1) f1.type .u32 .u32 _ _ u1) (fs := []) (r2 := true) rfl
  have e0 := eqF_cons (W := W) (d := d + 2) (xs := x.cells.toArray) (ys := y.cells.toArray) n0 (part_row u0 rfl (s0 W) (by rw [o0]; exact x.hash_at)) (part_row u0 rfl (s0 W) (by rw [o0]; exact y.hash_at)) (eqC_bytes x.hash y.hash 32 x.hh y.hh f0.type u0 d W) e1
  rw [Tp.same] at e0
  exact e0
theorem Ti.same (x y : Ti) : (decide (x.pt = y.pt) && ((x.key.toList == y.key.toList) && (((x.seq.toNat : Int) == (y.seq.toNat : Int)) && true))) = decide (x = y) := by
  rw [bytes_same, Bool.eq_iff_iff]
  simp only [Bool.and_eq_true, beq_iff_eq, decide_eq_true_eq, and_true]
  constructor
  · rintro ⟨h0, h1, h2⟩
    obtain ⟨a, b, c, d, _⟩ := x
    obtain ⟨a', b', c', d', _⟩ := y
    simp only [Ti.pt, Tp.mk.injEq] at h0 h1 h2
    obtain ⟨h3, h4⟩ := h0
    subst h1 h3 h4
    have e0 : d = d' := UInt32.toNat_inj.1 (by omega)
    subst e0
    rfl
  · rintro rfl
    exact ⟨rfl, rfl, rfl⟩
structure FO (t : TypeId) : Prop where
  ex : ∃ f0 f1, Tryz.prog.underlying t = some (.struct #[f0, f1]) ∧ (f0.name ≠ "_" ∧ f1.name ≠ "_") ∧ (f0.offset = 0 ∧ f1.offset = 1) ∧
    Tryz.prog.underlying f0.type = some (.int .u64) ∧ Tryz.prog.underlying f1.type = some .string
  st : Tryz.prog.stoodInHeld t = false
theorem Tu.same (x y : Tu) : (((x.val.toNat : Int) == (y.val.toNat : Int)) && ((x.lock.toList == y.lock.toList) && true)) = decide (x = y) := by
  rw [bytes_same, Bool.eq_iff_iff]
  simp only [Bool.and_eq_true, beq_iff_eq, decide_eq_true_eq, and_true]
  constructor
  · rintro ⟨h0, h1⟩
    obtain ⟨a, b⟩ := x
    obtain ⟨a', b'⟩ := y
    simp only at h0 h1
    subst h1
    have e0 : a = a' := UInt64.toNat_inj.1 (by omega)
    subst e0
    rfl
  · rintro rfl
    exact ⟨rfl, rfl⟩
section
set_option maxRecDepth 10000
set_option maxHeartbeats 4000000
set_option linter.unusedSimpArgs false
end
section
set_option maxRecDepth 10000
set_option maxHeartbeats 4000000
set_option linter.unusedSimpArgs false
end
def KPt : Ek Tp := ⟨80, 160, 33, 36, Tp.cells, by decide, by decide, Tryz.underlying80, by kernel_rfl, Tp.len, Tp.one⟩
def zTp : Tp := ⟨zeros, 0, zeros_len⟩
theorem APt : Arr 160 33 zTp.cells.toArray := ⟨.inr ⟨_, Tryz.underlying160⟩, by kernel_rfl, fun w => by kernel_rfl, fun w => by kernel_rfl, by rw [List.size_toArray, Tp.len]⟩
theorem Tp.size (x : Tp) : x.cells.toArray.size = 33 := by rw [List.size_toArray, x.len]
theorem Tp.all (x : Tp) : x.cells.toArray.all (·.oneCell') = true := by
  rw [Array.all_eq_true_iff_forall_mem]
  intro v hv
  exact x.one v (by simpa using hv)
theorem Ti.ptAt {W : World} {g off : Nat} (x : Ti) (h : W.rangeAt g off x.cells) : W.rangeAt g off x.pt.cells := fun j v hv => by
  refine h j v ?_
  have hj := (List.getElem?_eq_some_iff.1 hv).1
  rw [Tp.len] at hj
  have hl : (cellsL x.hash).length = 32 := by rw [cellsL_len, x.hh]
  have hl2 : (cellsL x.pt.hash).length = 32 := hl
  rw [← hv, Ti.cells, Tp.cells]
  by_cases h32 : j < 32
  · rw [List.getElem?_append_left (by omega), List.getElem?_append_left (by omega)]
    rfl
  · have : j = 32 := by omega
    subst this
    rw [List.getElem?_append_right (by omega), List.getElem?_append_right (by omega), hl, hl2]
    rfl
theorem rowAt {W : World} {g : Nat} {t : TypeId} (cs : List Value) (h : W.heap[g]? = some (.cells cs.toArray t (0, 0))) : W.rangeAt g 0 cs := fun j v hv => by
  rw [cell_of_row _ _ _ _ _ _ h, List.getElem?_toArray, Nat.zero_add]
  exact hv
theorem bld_Pt (x : Tp) (W : World) : (Instr.build 160 #[(0, .agg (hc x.hash)), (1, .int .u32 (x.idx.toNat : Int))]).run Tryz.prog W = .ok (.agg x.cells.toArray) W := by
  obtain ⟨h, i, hh⟩ := x
  obtain ⟨_, _, _, _, _, _, _, _, _, _, _, _, _, _, _, _, _, _, _, _, _, _, _, _, _, _, _, _, _, _, _, _, rfl⟩ := id32' h hh
  kernel_rfl
section
variable {α : Type} {w : World} {ops : Array Oper} {rest : List Oper} {o : Oper} {a : Act} {Q : Exit → Act → World → Prop}
theorem wpLoadP (x : Operand) (ho : o.op = .load 160 x) (g off : Nat) (hx : a.eval x = .pointer (some ⟨g, off, none⟩)) (y : Tp) (hr : w.rangeAt g off y.cells) (hw : Region.wanted o (yielded ops a.tmps) = true)
    (h : wpList Tryz.prog ops Q rest (a.put o.dst (.agg y.cells.toArray)) w) : wpList Tryz.prog ops Q (o :: rest) a w := by
  have ld : (Instr.loadAt 160 (.pointer (some ⟨g, off, none⟩))).run Tryz.prog w = .ok (.agg y.cells.toArray) w :=
    run_loadAt_mid w g off 160 _ _ hr Tryz.underlying160 rfl (by rw [y.len]; kernel_rfl)
  refine wpList_step fun K hK => ?_
  rw [if_pos hw]
  unfold Oper.wp execOp
  simp only [ho, hx, ld, Sem.run_bind, Result.andThen_ok, Sem.run_pure]
  exact hK _ _ h
theorem Ek.wpMake (E : Ek α) (hgd : o.guard = none) (l c : Operand) (hop : o.op = .makeSlice E.t l c) (kl kc : IntKind) (n : Nat) (hl : a.eval l = .int kl 0) (hc : a.eval c = .int kc (n : Int)) (hb : E.b * n ≤ 281474976710656) (h63 : n ≤ maxLen)
    (h : ∀ w', OX E w' (.slice (some ⟨w.heap.size, 0, none⟩) 0 n) [] → Below w.heap.size w w' → wpList Tryz.prog ops Q rest (a.put o.dst (.slice (some ⟨w.heap.size, 0, none⟩) 0 n)) w') : wpList Tryz.prog ops Q (o :: rest) a w := by
  refine wpList_plain hgd fun K hK => ?_
  obtain ⟨i, z, hi, hz, hzs, hs, hby⟩ := E.parts
  obtain ⟨w', hr, h1, h2⟩ := run_make_own (P := Tryz.prog) w 0 E.t E.e i z E.k E.sl hi hz hs kl kc n (by rw [hby]; exact hb) h63 (Nat.zero_le _)
  unfold Oper.wp
  simp only [execOp, hop, hl, hc, hr, Sem.run_bind, Result.andThen_ok, Sem.run_pure]
  exact hK _ _ (h w' h1 ⟨h2.os, h2.tape, h2.output, h2.size, fun k hk => h2.block k hk (fun e => by cases e)⟩)
theorem Ek.wpAppIn (E : Ek α) (hgd : o.guard = none) (x y : Operand)
    (ho : o.op = .call { callee := .builtin .append, args := #[x, y], argTypes := #[E.t, E.t] })
    (g n cap : Nat) (L : List α) (hx : a.eval x = .slice (some ⟨g, 0, none⟩) n cap) (hn : n = L.length) (hown : OX E w (.slice (some ⟨g, 0, none⟩) n cap) L)
    (ad : Addr) (e : α) (hy : a.eval y = .slice (some ad) 1 1) (hnews : ∀ j u, (flatE E [e])[j]? = some u → w.cell? (ad.add j) = some u) (hroom : n + 1 ≤ cap)
    (h : ∀ w', OX E w' (.slice (some ⟨g, 0, none⟩) (n + 1) cap) (L ++ [e]) → Onto w w' (.slice (some ⟨g, 0, none⟩) n cap) (.slice (some ⟨g, 0, none⟩) (n + 1) cap) → wpList Tryz.prog ops Q rest (a.put o.dst (.slice (some ⟨g, 0, none⟩) (n + 1) cap)) w') :
    wpList Tryz.prog ops Q (o :: rest) a w := by
  obtain ⟨i, z, hi, hz, hzs, hs, hby⟩ := E.parts
  subst hn
  refine wpList_append_own_spare (P := Tryz.prog) w hgd x y E.t ho 0 E.e i E.k E.sl hi hs g L.length cap (flatE E L) hx hown ad 1 1 (flatE E [e]) hy (by rw [flatE_len]; simp) hnews (flatE_cell E [e]) hroom fun w' h1 h2 => h w' ?_ ⟨h2, .inl rfl⟩
  unfold OX
  rw [List.length_append, flatE_app]
  exact h1
end
structure Pj (W0 W : World) (v : Value) (L : List Tp) : Prop where
  bel : Below W0.heap.size W0 W
  ox : OX KPt W v L
  far : ∀ g, v.ownBlock = some g → W0.heap.size ≤ g
theorem Pj.next {W0 W W' : World} {v : Value} {L : List Tp} (h : Pj W0 W v L) (b : Below W.heap.size W W') : Pj W0 W' v L := ⟨below_next h.bel b, h.ox.below b, h.far⟩
theorem Pj.app {W0 W W' : World} {v v' : Value} {L L' : List Tp} (h : Pj W0 W v L) (o : Obj) (q : OX KPt W' v' L') (on : Onto (W.alloc o) W' v v') : Pj W0 W' v' L' := by
  have hsz : (W.alloc o).heap.size = W.heap.size + 1 := by simp
  have hle := h.bel.size
  have g := on.grown
  have ba : Below W.heap.size W (W.alloc o) := (Below.refl _ _).alloc (Nat.le_refl _) _
  refine ⟨⟨(g.os.trans ba.os).trans h.bel.os, (g.tape.trans ba.tape).trans h.bel.tape, (g.output.trans ba.output).trans h.bel.output, ?_, fun k k1 => ((g.block k (by omega) (fun e => by have := h.far k e.symm; omega)).trans (Below.heap_alloc W o k (by omega))).trans (h.bel.block k k1)⟩, q, fun b hb => ?_⟩
  · have := g.size
    omega
  · rcases on.lies with r | ⟨c, r, hc⟩
    · exact h.far b (by rw [← r]; exact hb)
    · rw [r] at hb
      cases hb
      omega
section
set_option maxRecDepth 10000
set_option maxHeartbeats 4000000
def pairL (id : Id32) (k : Nat) : List Tp := (List.range k).map fun i => ⟨id.1, UInt32.ofNat i, id.2⟩
theorem pairL_succ (id : Id32) (k : Nat) : pairL id (k + 1) = pairL id k ++ [⟨id.1, UInt32.ofNat k, id.2⟩] := by simp [pairL, List.range_succ]
theorem pairL_len (id : Id32) (k : Nat) : (pairL id k).length = k := by simp [pairL]
theorem pairs_any (id : Id32) (m : Tm) (ai : Option Addr) (ci : Nat) (ao : Option Addr) (co : Nat) (w : World) (hl : LT w m ai ci ao co) (hf : m.fit) : Calls Tryz.prog 89 #[.agg (hc id.1), .agg (m.cells ai ci ao co)] w fun e w' => ∃ (bi : Option Addr) (di : Nat), e = .returned (.slice bi m.outs.length di) ∧ LX KPt w' (.slice bi m.outs.length di) (pairL id m.outs.length) ∧ Below w.heap.size w w' := by
  have e1 := heap_alloc_last w (.cells (hc id.1) 46)
  have r1 := (Below.heap_alloc _ (.cells (m.cells ai ci ao co) 152) _ (lt_heap e1)).trans e1
  have r2 := heap_alloc_last (w.alloc (.cells (hc id.1) 46)) (.cells (m.cells ai ci ao co) 152)
  have hsz : (w.alloc (.cells (hc id.1) 46)).heap.size = w.heap.size + 1 := by simp
  rw [hsz] at r2
  have b0 : Below w.heap.size w ((w.alloc (.cells (hc id.1) 46)).alloc (.cells (m.cells ai ci ao co) 152)) := ((Below.refl _ _).alloc (Nat.le_refl _) _).alloc (by simp) _
  have CC : Hid (∀ W, Below ((w.alloc (.cells (hc id.1) 46)).alloc (.cells (m.cells ai ci ao co) 152)).heap.size ((w.alloc (.cells (hc id.1) 46)).alloc (.cells (m.cells ai ci ao co) 152)) W → W.cell? ⟨w.heap.size + 1, 2, none⟩ = some (.slice ao m.outs.length co) ∧ W.rangeAt w.heap.size 0 (cellsL id.1)) := fun W b => ⟨by rw [cell_of_row _ _ _ _ _ _ ((b.block _ (lt_heap r2)).trans r2)]; rfl, rowAt _ ((b.block _ (lt_heap r1)).trans r1)⟩
  have HF := hide hf.o
  have B1 := hide b0
  clear e1 r1 r2 b0 hl hf
  generalize m.cells ai ci ao co = C at *
  go_enter Tryz.func89, Tryz.ntmps89
  go_upto_region 1 with ((with_reducible refine at_list ?_); first | refine wpList_boxA rfl _ rfl (hc id.1) rfl ?_ | refine wpList_boxA rfl _ rfl C rfl ?_)
  try rw [hsz]
  clear hsz
  generalize (w.alloc (.cells (hc id.1) 46)).alloc (.cells C 152) = W0 at *
  have c1 := (CC.out _ (Below.refl _ _)).1
  go_upto_region 2 with ((with_reducible refine at_list ?_); refine Ek.wpMake KPt rfl _ _ rfl .i64 .i64 m.outs.length rfl rfl (by have := HF.out; show 36 * m.outs.length ≤ _; omega) (by have := HF.out; unfold maxLen; omega) ?_; intro W1 ox1 b2; have OX1 := hide ox1; have B2 := hide b2; clear ox1 b2)
  clear c1
  have c2 := (CC.out _ B2.out).1
  have J0 : Hid (Pj W0 W1 (.slice (some ⟨W0.heap.size, 0, none⟩) 0 m.outs.length) []) := ⟨B2.out, OX1.out, fun g hg => by cases hg; exact Nat.le_refl _⟩
  go_upto_region 3 with fail
  clear c2 OX1 B2
  have PL0 : Hid (pairL id 0 = []) := rfl
  go_loopw [5, 14] (fun v i wr => ∃ k : Nat, k ≤ m.outs.length ∧ i = .int .i64 (k : Int) ∧ v = .slice (some ⟨W0.heap.size, 0, none⟩) k m.outs.length ∧ Hid (Pj W0 wr (.slice (some ⟨W0.heap.size, 0, none⟩) k m.outs.length) (pairL id k))) (fun _ i _ => (m.outs.length - intOf i).toNat)
  case atStart => exact ⟨0, Nat.zero_le _, rfl, rfl, J0.out⟩
  case round =>
    clear J0
    obtain ⟨k, hk, rfl, rfl, J⟩ := hrel
    by_cases hlt : k < m.outs.length
    · have h1 : (k : Int) < (m.outs.length : Int) := by omega
      have h2 : (0 : Int) ≤ (k : Int) := by omega
      have h5 := HF.out
      have e1 : IntKind.i64.wrap ((k : Int) + 1) = k + 1 := wrapI _ (by omega) (by omega)
      have e2 : IntKind.u32.wrap (k : Int) = ((UInt32.ofNat k).toNat : Int) := by rw [IntKind.wrap_u32, UInt32.toNat_ofNat']; omega
      have KK := hide (And.intro (show k + 1 ≤ m.outs.length by omega) (show ((m.outs.length : Int) - ((k : Int) + 1)).toNat < ((m.outs.length : Int) - (k : Int)).toNat by omega))
      have RH := hide (CC.out _ J.out.bel).2
      have TK := hide (pairL_succ id k)
      have TL := hide (pairL_len id k)
      obtain ⟨x, hx⟩ : ∃ x : Tp, x = ⟨id.1, UInt32.ofNat k, id.2⟩ := ⟨_, rfl⟩
      have XH : Hid (x.hash = id.1 ∧ x.idx = UInt32.ofNat k) := ⟨by rw [hx], by rw [hx]⟩
      rw [← hx] at TK
      have BL : Hid (∀ W, (Instr.build 160 #[(0, .agg (hc id.1)), (1, .int .u32 ((UInt32.ofNat k).toNat : Int))]).run Tryz.prog W = .ok (.agg x.cells.toArray) W) := fun W => by
        have := bld_Pt x W
        rw [XH.out.1, XH.out.2] at this
        exact this
      generalize pairL id k = P at *
      generalize (UInt32.ofNat k).toNat = ku at *
      clear hk hlt h5 hx
      go_wp2_with (first | ((with_reducible refine at_list ?_); first | refine wpLoadHash _ rfl w.heap.size 0 rfl id.1 id.2 RH.out (by rfl) ?_ | refine wpList_bldX rfl _ rfl #[(0, .agg (hc id.1)), (1, .int .u32 (ku : Int))] x.cells.toArray (by simp only [List.map_toArray, List.map_cons, List.map_nil]; rfl) BL.out ?_ | refine Ek.wpBs1 KPt rfl _ rfl x rfl ?_) | (at_builtin; refine Ek.wpAppIn KPt rfl _ _ rfl W0.heap.size k m.outs.length P rfl TL.out.symm (J.out.ox.below ((Below.refl _ _).alloc (Nat.le_refl _) _)) ⟨_, 0, none⟩ x rfl (one_newX _ x) KK.out.1 ?_; intro W4 o4 on4; have J4 := hide (J.out.app _ o4 on4); clear o4 on4))
      refine ⟨⟨k + 1, KK.out.1, by go_num, rfl, ?_⟩, by simpa [intOf] using KK.out.2⟩
      have := J4.out
      rw [← TK.out] at this
      exact this
    · have h1 : ¬ (k : Int) < (m.outs.length : Int) := by omega
      have hk2 : k = m.outs.length := by omega
      subst hk2
      clear hk hlt
      go_wp2
      go_ret
      exact ⟨_, _, rfl, J.out.ox.read, B1.out.trans (J.out.bel.mono B1.out.size)⟩
end
end Go.Proofs.YtcoojkpimbddlaaGreatDoor
namespace Go.Proofs.YtcoojkpimbddlaaGreatDoor
def dg (B n i : Nat) : Nat := n / B ^ i % B
def vs (B : Nat) (f : Nat → Nat) : Nat → Nat
  | 0 => 0
  | k + 1 => vs B f k + f k * B ^ k
theorem dg_lt {B : Nat} (h : 0 < B) (n i : Nat) : dg B n i < B := Nat.mod_lt _ h
theorem vs_congr (B : Nat) {f g : Nat → Nat} : ∀ {k : Nat}, (∀ i, i < k → f i = g i) → vs B f k = vs B g k
  | 0, _ => rfl
  | k + 1, h => by rw [vs, vs, vs_congr B (fun i hi => h i (by omega)), h k (by omega)]
theorem vs_lt {B : Nat} {f : Nat → Nat} : ∀ {k : Nat}, (∀ i, i < k → f i < B) → vs B f k < B ^ k
  | 0, _ => by simp [vs]
  | k + 1, h => by
    have h1 := vs_lt (k := k) (fun i hi => h i (by omega))
    have h2 : f k + 1 ≤ B := h k (by omega)
    have h3 : (f k + 1) * B ^ k ≤ B * B ^ k := Nat.mul_le_mul_right _ h2
    rw [vs, Nat.pow_succ, Nat.mul_comm (B ^ k) B]
    rw [Nat.add_mul, Nat.one_mul] at h3
    omega
theorem dg_vs {B : Nat} {f : Nat → Nat} : ∀ {k : Nat}, (∀ i, i < k → f i < B) → ∀ i, i < k → dg B (vs B f k) i = f i
  | 0, _, i, hi => by omega
  | k + 1, h, i, hi => by
    have hB : 0 < B := Nat.lt_of_le_of_lt (Nat.zero_le _) (h i hi)
    rcases Nat.lt_or_ge i k with hk | hk
    · have ih := dg_vs (k := k) (fun i hi => h i (by omega)) i hk
      unfold dg at ih ⊢
      rw [vs, show B ^ k = B ^ i * (B * B ^ (k - i - 1)) by rw [← Nat.pow_succ', ← Nat.pow_add]; congr 1; omega, ← Nat.mul_assoc, Nat.mul_comm (f k), Nat.mul_assoc, Nat.add_mul_div_left _ _ (Nat.pow_pos hB), Nat.mul_comm (f k), Nat.mul_assoc, Nat.add_mul_mod_self_left]
      exact ih
    · have : i = k := by omega
      subst this
      have h1 := vs_lt (k := i) (fun j hj => h j (by omega))
      unfold dg
      rw [vs, Nat.add_mul_div_right _ _ (Nat.pow_pos hB), Nat.div_eq_of_lt h1, Nat.zero_add, Nat.mod_eq_of_lt (h i hi)]
theorem vs_dg (B n : Nat) : ∀ k, vs B (dg B n) k = n % B ^ k
  | 0 => by simp [vs, Nat.mod_one]
  | k + 1 => by rw [vs, vs_dg B n k, Nat.pow_succ, Nat.mod_mul, dg, Nat.mul_comm]
theorem mod_next (B n k : Nat) : n % B ^ (k + 1) = n % B ^ k + dg B n k * B ^ k := by
  rw [Nat.pow_succ, Nat.mod_mul, dg, Nat.mul_comm (B ^ k)]
theorem dg_mod (B n k i : Nat) (h : i < k) : dg B (n % B ^ k) i = dg B n i := by
  rcases Nat.eq_zero_or_pos B with hB | hB
  · subst hB
    rw [Nat.zero_pow (by omega), Nat.mod_zero]
  · rw [← vs_dg]
    exact dg_vs (fun j _ => dg_lt hB n j) i h
theorem dg_ext {B m n k : Nat} (hm : m < B ^ k) (hn : n < B ^ k) (h : ∀ i, i < k → dg B m i = dg B n i) : m = n := by
  have e1 := vs_dg B m k
  have e2 := vs_dg B n k
  rw [Nat.mod_eq_of_lt hm] at e1
  rw [Nat.mod_eq_of_lt hn] at e2
  rw [← e1, ← e2]
  exact vs_congr B h
theorem dg_zero (B i : Nat) : dg B 0 i = 0 := by simp [dg]
theorem add_digit (B m n i : Nat) (hB : 0 < B) : dg B (m + n) i = (dg B m i + dg B n i + (m % B ^ i + n % B ^ i) / B ^ i) % B := by
  unfold dg
  have hP : 0 < B ^ i := Nat.pow_pos hB
  generalize B ^ i = P at *
  have e : m + n = P * (m / P + n / P) + (m % P + n % P) := by
    have h1 := Nat.div_add_mod m P
    have h2 := Nat.div_add_mod n P
    rw [Nat.mul_add]
    omega
  rw [e, Nat.mul_add_div hP]
  rw [Nat.add_mod (_ + _) ((m % P + n % P) / P), Nat.add_mod (m / P) (n / P), ← Nat.add_mod]
theorem add_carry (B m n i : Nat) (hB : 0 < B) : (m % B ^ (i + 1) + n % B ^ (i + 1)) / B ^ (i + 1) = (dg B m i + dg B n i + (m % B ^ i + n % B ^ i) / B ^ i) / B := by
  rw [mod_next, mod_next]
  have hP : 0 < B ^ i := Nat.pow_pos hB
  rw [Nat.pow_succ, ← Nat.div_div_eq_div_mul]
  congr 1
  rw [show m % B ^ i + dg B m i * B ^ i + (n % B ^ i + dg B n i * B ^ i) = (m % B ^ i + n % B ^ i) + (dg B m i + dg B n i) * B ^ i by rw [Nat.add_mul]; omega, Nat.add_mul_div_right _ _ hP]
  omega
theorem carry_le (B m n i : Nat) (hB : 0 < B) : (m % B ^ i + n % B ^ i) / B ^ i ≤ 1 := by
  have hP : 0 < B ^ i := Nat.pow_pos hB
  have h1 := Nat.mod_lt m hP
  have h2 := Nat.mod_lt n hP
  have : (m % B ^ i + n % B ^ i) / B ^ i < 2 := by rw [Nat.div_lt_iff_lt_mul hP]; omega
  omega
theorem mul_step (B : Nat) (f f' g : Nat → Nat) (i k a b c s : Nat)
    (h : vs B f (i + k) + c * B ^ (i + k) = vs B g (i + k) + a * (b % B ^ k) * B ^ i)
    (hs : s = g (i + k) + a * dg B b k + c) (hf : ∀ j, j < i + k → f' j = f j) (hf2 : f' (i + k) = s % B) :
    vs B f' (i + (k + 1)) + s / B * B ^ (i + (k + 1)) = vs B g (i + (k + 1)) + a * (b % B ^ (k + 1)) * B ^ i := by
  have e1 : vs B f' (i + k) = vs B f (i + k) := vs_congr B hf
  rw [show i + (k + 1) = i + k + 1 by omega, vs, vs, e1, hf2, mod_next, Nat.pow_succ, Nat.pow_add] at *
  have e2 := Nat.div_add_mod s B
  have e3 : s % B * (B ^ i * B ^ k) + s / B * (B ^ i * B ^ k * B) = s * (B ^ i * B ^ k) := by
    conv => rhs; rw [← e2]
    rw [Nat.add_mul, Nat.mul_comm B (s / B), Nat.mul_assoc (s / B) B, Nat.mul_comm B, Nat.add_comm]
  have e4 : s * (B ^ i * B ^ k) = g (i + k) * (B ^ i * B ^ k) + a * dg B b k * (B ^ i * B ^ k) + c * (B ^ i * B ^ k) := by rw [hs, Nat.add_mul, Nat.add_mul]
  have e5 : a * (b % B ^ k + dg B b k * B ^ k) * B ^ i = a * (b % B ^ k) * B ^ i + a * dg B b k * (B ^ i * B ^ k) := by
    rw [Nat.mul_add, Nat.add_mul]
    congr 1
    rw [← Nat.mul_assoc a, Nat.mul_assoc _ (B ^ k), Nat.mul_comm (B ^ k)]
  rw [e5]
  omega
theorem mul_row (B : Nat) (f f' g : Nat → Nat) (i N a b c : Nat) (hb : b < B ^ N) (hg : vs B g (i + N) = a % B ^ i * b)
    (h : vs B f (i + N) + c * B ^ (i + N) = vs B g (i + N) + dg B a i * (b % B ^ N) * B ^ i) (hf : ∀ j, j < i + N → f' j = f j) (hf2 : f' (i + N) = c) :
    vs B f' (i + 1 + N) = a % B ^ (i + 1) * b := by
  have e1 : vs B f' (i + N) = vs B f (i + N) := vs_congr B hf
  rw [show i + 1 + N = i + N + 1 by omega, vs, e1, hf2, h, hg, mod_next, Nat.mod_eq_of_lt hb, Nat.add_mul]
  congr 1
  rw [Nat.mul_assoc, Nat.mul_comm b, ← Nat.mul_assoc]
def bl (n : Nat) : Nat := if n = 0 then 0 else n.log2 + 1
theorem bl_lt (n : Nat) : n < 2 ^ bl n := by
  unfold bl
  split
  · subst n; decide
  · exact Nat.lt_log2_self
theorem bl_le (n : Nat) (h : 0 < n) : 2 ^ (bl n - 1) ≤ n := by
  unfold bl
  rw [if_neg (by omega)]
  simpa using Nat.log2_self_le (by omega)
theorem bl_zero : bl 0 = 0 := rfl
theorem bl_pos (n : Nat) (h : 0 < n) : 0 < bl n := by
  unfold bl
  rw [if_neg (by omega)]
  omega
theorem bl_unique (n k : Nat) (h1 : 2 ^ k ≤ n) (h2 : n < 2 ^ (k + 1)) : bl n = k + 1 := by
  have h0 := Nat.two_pow_pos k
  have a1 := bl_lt n
  have a2 := bl_le n (by omega)
  have a3 := bl_pos n (by omega)
  have b1 : k < bl n := (Nat.pow_lt_pow_iff_right (a := 2) (by decide)).1 (Nat.lt_of_le_of_lt h1 a1)
  have b2 : bl n - 1 < k + 1 := (Nat.pow_lt_pow_iff_right (a := 2) (by decide)).1 (Nat.lt_of_le_of_lt a2 h2)
  omega
theorem bl_le_of (n k : Nat) (h : n < 2 ^ k) : bl n ≤ k := by
  rcases Nat.eq_zero_or_pos n with h0 | h0
  · subst h0; simp [bl_zero]
  · have a2 := bl_le n h0
    have b2 : bl n - 1 < k := (Nat.pow_lt_pow_iff_right (a := 2) (by decide)).1 (Nat.lt_of_le_of_lt a2 h)
    omega
theorem bl_shift (n k : Nat) (h : 2 ^ k ≤ n) : bl n = k + bl (n / 2 ^ k) := by
  have h0 := Nat.two_pow_pos k
  have hq : 0 < n / 2 ^ k := Nat.div_pos h h0
  have a1 := bl_lt (n / 2 ^ k)
  have a2 := bl_le (n / 2 ^ k) hq
  have a3 := bl_pos (n / 2 ^ k) hq
  generalize bl (n / 2 ^ k) = m at *
  obtain ⟨m, rfl⟩ : ∃ m', m = m' + 1 := ⟨m - 1, by omega⟩
  rw [Nat.add_sub_cancel] at a2
  have e := bl_unique n (k + m) (by
    rw [Nat.pow_add, Nat.mul_comm]
    exact (Nat.le_div_iff_mul_le h0).1 a2) (by
    rw [Nat.add_assoc, Nat.pow_add, Nat.mul_comm]
    exact (Nat.div_lt_iff_lt_mul h0).1 a1)
  omega
end Go.Proofs.YtcoojkpimbddlaaGreatDoor
