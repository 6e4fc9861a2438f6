/- Levels, the contracts of Root and of the statements' awake. Lists of transactions; the contract of block.Root. slices.Clone of outputs, inputs and transactions: the contracts. tx.Paid and the document's Paid: their contracts. tx.isNull, tx.Base and the document's Base: their contracts. -/
import Derived.Test.YthhojpplbhnnfaaGreatDoorX32
import Derived.Test.YthhojpplbhnnfaaGreatDoorX26
import Derived.Test.YthhojpplbhnnfaaGreatDoorX30
import Derived.Test.YthhojpplbhnnfaaGreatDoorX12
namespace Go.Proofs.YthhojpplbhnnfaaGreatDoor
open Go.RowKit
open Go.Deep
/-- The level k of a list. -/
def lv (L : List (List UInt8)) : Nat → List (List UInt8)
  | 0 => L
  | k + 1 => nxt (lv L k)
theorem lv_32 {L : List (List UInt8)} (h : H32 L) : ∀ k, H32 (lv L k)
  | 0 => h
  | _ + 1 => nxt_32 _
theorem lv_le (L : List (List UInt8)) : ∀ k, (lv L k).length ≤ L.length
  | 0 => Nat.le_refl _
  | k + 1 => by
    rw [lv, nxt_len]
    have := lv_le L k
    omega
/-- Whether a level below k has two same ones. -/
def muK (L : List (List UInt8)) : Nat → Bool
  | 0 => false
  | k + 1 => muK L k || twb (lv L k)
/-- The root, and whether a list is mutated. -/
def rtL (L : List (List UInt8)) : List UInt8 := if L = [] then zeros else ia (lv L (dp L.length)) 0
def muL (L : List (List UInt8)) : Bool := muK L (dp L.length)
theorem lv_pos (L : List (List UInt8)) (h : 0 < L.length) : ∀ k, 0 < (lv L k).length
  | 0 => h
  | k + 1 => by
    rw [lv, nxt_len]
    have := lv_pos L h k
    omega
theorem rtL_len {L : List (List UInt8)} (h : H32 L) : (rtL L).length = 32 := by
  unfold rtL
  split
  · exact zeros_len
  · rename_i h0
    exact (lv_32 h _).at 0 (lv_pos L (by rcases L with _ | ⟨a, r⟩; exact absurd rfl h0; simp) _)
theorem resAB {t : TypeId} {n : Nat} {z : Array Value} (A : Arr t n z) {fn : Func} {p u : Tmp} (hf : fn.results = #[.cell p t, .tmp u]) (tmps : Array Value) (w : World) (g : Nat) (t' : TypeId) (c : Array Value) (hn : c.size = n)
    (hp : tmps.getD p undef = .pointer (some ⟨g, 0, none⟩)) (hg : w.heap[g]? = some (.cells c t' (0, 0))) (x : Value) (hx : tmps.getD u undef = x) : (results fn tmps).run Tryz.prog w = .ok (.tuple #[.agg c, x]) w := by
  subst hx
  have hp' : tmps[p]?.getD undef = .pointer (some ⟨g, 0, none⟩) := by simpa using hp
  rcases A.und with ⟨m, e, hd⟩ | ⟨fs, hd⟩ <;> simp [results, hf, hp', asAddr, run_loadVar_row w g t' t c (0, 0) _ hg hd rfl (by rw [A.info, hn])]
def lenV2 : Value → Nat
  | .slice _ n _ => n
  | _ => 0
/-- A level, and an answer's place. -/
structure Rj (w W : World) (v : Value) (L : List (List UInt8)) : Prop where
  lh : LH W v L
  r : W.heap[w.heap.size]? = some (.cells (hc zeros) 46 (0, 0))
  bel : Below w.heap.size w W
theorem Rj.next {w W W' : World} {v : Value} {L : List (List UInt8)} (j : Rj w W v L) (h : Below W.heap.size W W') : Rj w W' v L := ⟨j.lh.below h, (h.block _ (lt_heap j.r)).trans j.r, below_next j.bel h⟩
theorem Rj.level {w W W' : World} {v v' : Value} {L L' : List (List UInt8)} (j : Rj w W v L) (o : Oj 46 W W' v' L') : Rj w W' v' L' := ⟨o.own.read, (o.bel.block _ (lt_heap j.r)).trans j.r, below_next j.bel o.bel⟩
section
set_option maxRecDepth 10000
set_option maxHeartbeats 2000000
theorem root_none (v : Value) (w : World) (hL : LH w v []) : Calls Tryz.prog 183 #[v] w fun e w' => e = .returned (.tuple #[.agg (hc zeros), .bool false]) ∧ Below w.heap.size w w' := by
  obtain ⟨ao, cap, rfl⟩ := hL.form
  have R0 := hide (heap_alloc_last w (.cells (hc zeros) 46))
  have B0 := hide ((Below.refl w.heap.size w).alloc (Nat.le_refl _) (.cells (hc zeros) 46))
  rw [List.length_nil]
  clear hL
  go_enter Tryz.func183, Tryz.ntmps183
  go_upto_region 1 with (refine wpList_allocA A25 rfl rfl ?_)
  generalize w.alloc (.cells (hc zeros) 46) = W0 at *
  go_wp2_with (first | refine wpList_buildA A25 rfl rfl ?_ | refine wpList_storeA A25 rfl _ _ rfl _ (hc zeros) (by rw [hc_size, zeros_len]) (hc_one _) rfl rfl (hc zeros) (by rw [hc_size, zeros_len]) 46 R0.out ?_)
  exact bodyPost_ret (v := .tuple #[.agg (hc zeros), .bool false]) (resAB A25 Tryz.results183 _ _ w.heap.size 46 (hc zeros) (by rw [hc_size, zeros_len]) rfl (setRow_heap _ _ _ _ _ _ R0.out) _ (by rfl)) rfl ⟨rfl, below_setRow B0.out (Nat.le_refl _) _⟩
theorem root_some (v : Value) (L : List (List UInt8)) (w : World) (hL : LH w v L) (h0 : 0 < L.length) (hn : L.length < 4398046511104) (hK : Kg w) : Calls Tryz.prog 183 #[v] w fun e w' => e = .returned (.tuple #[.agg (hc (rtL L)), .bool (muL L)]) ∧ Below w.heap.size w w' := by
  obtain ⟨ao, cap, rfl⟩ := hL.form
  have J0 : Hid (Rj w (w.alloc (.cells (hc zeros) 46)) (.slice ao L.length cap) (lv L 0)) := ⟨hL.below ((Below.refl _ _).alloc (Nat.le_refl _) _), heap_alloc_last w _, (Below.refl _ _).alloc (Nat.le_refl _) _⟩
  have KW : Hid (∀ W, Below w.heap.size w W → Kg W) := fun W h => hK.next h
  have HN := hide (And.intro h0 hn)
  have H3 := hide hL.1
  have RL := hide (rtL_len hL.1)
  have hne : ((L.length : Int) == 0) = false := by rw [beq_eq_false_iff_ne]; omega
  clear hL hK h0 hn
  go_enter Tryz.func183, Tryz.ntmps183
  go_upto_region 1 with (refine wpList_allocA A25 rfl rfl ?_)
  generalize w.alloc (.cells (hc zeros) 46) = W0 at *
  go_wp2
  go_loopw [4, 5] (fun v m wr => ∃ k : Nat, m = .bool (muK L k) ∧ Hid (Rj w wr v (lv L k)) ∧ Hid (dp (lv L k).length + k = dp L.length)) (fun v _ _ => lenV2 v)
  case atStart => exact ⟨0, rfl, J0, rfl⟩
  case round =>
    clear J0
    obtain ⟨k, rfl, J, HD⟩ := hrel
    obtain ⟨ao4, cap4, rfl⟩ := J.out.lh.form
    have hle := lv_le L k
    have hpos := lv_pos L HN.out.1 k
    have hn := HN.out.2
    by_cases hlt : 1 < (lv L k).length
    · have h1 : (1 : Int) < ((lv L k).length : Int) := by omega
      have HD2 : Hid (dp (lv L (k + 1)).length + (k + 1) = dp L.length) := by
        show _ = _
        rw [← HD.out, dp_step _ hlt, lv, nxt_len]
        omega
      have HS := hide (show muK L (k + 1) = (muK L k || twb (lv L k)) from rfl)
      have HTw := hide fun W hW => twins_any (.slice ao4 (lv L k).length cap4) (lv L k) W hW (by omega)
      have HAb := hide fun W hW hK => above_any (.slice ao4 (lv L k).length cap4) (lv L k) W hW (by omega) hK
      rw [show nxt (lv L k) = lv L (k + 1) from rfl] at HAb
      have ME := hide (show (lv L (k + 1)).length < (lv L k).length by rw [lv, nxt_len]; omega)
      generalize muK L k = mu at *
      generalize twb (lv L k) = tb at *
      clear hlt hle hpos hn hne
      cases mu
      case' false =>
        go_upto_region 6 with (first | (go_at_call 226; refine (HTw.out _ J.out.lh).mono ?_; rintro e w1 ⟨rfl, be⟩; have J1 := hide (J.out.next be); clear be))
        rw [Bool.false_or] at HS
        clear J
        generalize w1 = W1 at *
      case' true =>
        go_upto_region 6 with fail
        rw [Bool.true_or] at HS
        have J1 := J
        clear J
        generalize wr = W1 at *
      all_goals
        go_wp2_with (first | (go_at_call 227; refine (HAb.out _ J1.out.lh (KW.out _ J1.out.bel)).mono ?_; rintro e w2 ⟨v2, rfl, o2⟩; have J2 := hide (J1.out.level o2); clear o2))
        obtain ⟨ao2, cap2, rfl⟩ := J2.out.lh.form
        exact ⟨⟨k + 1, by rw [HS.out], J2, HD2⟩, by simpa [lenV2] using ME.out⟩
    · have h1 : ¬ (1 : Int) < ((lv L k).length : Int) := by omega
      have hl1 : (lv L k).length = 1 := by omega
      have hk : k = dp L.length := by
        have := HD.out
        rw [hl1, dp_low 1 (by omega)] at this
        omega
      have hrt : rtL L = ia (lv L k) 0 := by
        unfold rtL
        rw [if_neg (fun h => by rw [h] at hpos; have := HN.out.1; rw [h] at this; simp at this), hk]
      have hmu : muL L = muK L k := by unfold muL; rw [hk]
      obtain ⟨g, off, rfl⟩ := J.out.lh.base hpos
      have R1 := hide (J.out.lh.range 0 hpos)
      rw [← hrt] at R1
      have h2 : (0 : Int) < ((lv L k).length : Int) := by omega
      rw [← hmu]
      generalize hrr : rtL L = rr at *
      generalize hmm : muL L = mm at *
      have HE := hide (And.intro hrr hmm)
      clear hk hrt hmu hlt hle hn hl1 hne hrr hmm
      go_wp2_with (first | refine ET.wpLoad EH rfl _ rfl g _ rfl rr RL.out R1.out ?_ | refine wpList_storeA A25 rfl _ _ rfl _ (hc rr) (by rw [hc_size, RL.out]) (hc_one _) rfl rfl (hc zeros) (by rw [hc_size, zeros_len]) 46 J.out.r ?_)
      exact bodyPost_ret (v := .tuple #[.agg (hc rr), .bool mm]) (resAB A25 Tryz.results183 _ _ w.heap.size 46 (hc rr) (by rw [hc_size, RL.out]) rfl (setRow_heap _ _ _ _ _ _ J.out.r) _ (by rfl)) rfl ⟨by rw [HE.out.1, HE.out.2], below_setRow J.out.bel (Nat.le_refl _) _⟩
end
end Go.Proofs.YthhojpplbhnnfaaGreatDoor
namespace Go.Proofs.YthhojpplbhnnfaaGreatDoor
open Go.RowKit
open Go.Deep
set_option linter.unusedVariables false
/-- A transaction and where its lists lie. -/
structure Tq where
  m : Tm
  ai : Option Addr
  ci : Nat
  ao : Option Addr
  co : Nat
def Tq.cells (x : Tq) : List Value := [.int .u32 (x.m.ver.toNat : Int), .slice x.ai x.m.ins.length x.ci, .slice x.ao x.m.outs.length x.co, .int .u32 (x.m.time.toNat : Int)]
def Tq.arr (x : Tq) : Array Value := x.m.cells x.ai x.ci x.ao x.co
theorem Tq.arr_eq (x : Tq) : x.cells.toArray = x.arr := rfl
theorem Tq.one (x : Tq) : ∀ v ∈ x.cells, v.oneCell' = true := by
  intro v hv
  simp only [Tq.cells, List.mem_cons, List.not_mem_nil, or_false] at hv
  rcases hv with rfl | rfl | rfl | rfl <;> rfl
def KT : Ek Tq := ⟨94, 159, 4, 64, Tq.cells, by decide, by decide, Tryz.underlying94, by kernel_rfl, fun _ => rfl, Tq.one⟩
def Tq.can (w : World) (x : Tq) : Prop := LT w x.m x.ai x.ci x.ao x.co ∧ x.m.fit
theorem Tq.can.below {w W : World} {x : Tq} (h : x.can w) (b : Below w.heap.size w W) : x.can W := ⟨h.1.below b, h.2⟩
/-- A slice of transactions that can be read. -/
structure LQ (w : World) (v : Value) (L : List Tq) : Prop where
  l : LX KT w v L
  t : ∀ x ∈ L, x.can w
theorem LQ.below {w W : World} {v : Value} {L : List Tq} (h : LQ w v L) (b : Below w.heap.size w W) : LQ W v L := ⟨h.l.below b, fun x hx => (h.t x hx).below b⟩
theorem LQ.at {w : World} {v : Value} {L : List Tq} (h : LQ w v L) (k : Nat) (hk : k < L.length) : L[k].can w := h.t _ (List.getElem_mem hk)
/-- The ids of transactions. -/
def idsL (L : List Tq) : List (List UInt8) := L.map (fun x => x.m.idT)
theorem idsL_len (L : List Tq) : (idsL L).length = L.length := by simp [idsL]
theorem idsL_32 (L : List Tq) : H32 (idsL L) := by
  intro l hl
  simp only [idsL, List.mem_map] at hl
  obtain ⟨x, _, rfl⟩ := hl
  exact x.m.idT_len
theorem idsL_next (L : List Tq) (k : Nat) (hk : k < L.length) : (idsL L).take k ++ [L[k].m.idT] = (idsL L).take (k + 1) := by
  rw [← List.take_append_getElem (show k < (idsL L).length by rw [idsL_len]; exact hk)]
  simp [idsL]
theorem wpLoadT {w : World} {ops : Array Oper} {rest : List Oper} {o : Oper} {a : Act} {Q : Exit → Act → World → Prop} (x : Operand) (ho : o.op = .load 159 x) (g off : Nat) (hx : a.eval x = .pointer (some ⟨g, off, none⟩)) (y : Tq) (hr : w.rangeAt g off y.cells) (hw : Region.wanted o (yielded ops a.tmps) = true)
    (h : wpList Tryz.prog ops Q rest (a.put o.dst (.agg y.arr)) w) : wpList Tryz.prog ops Q (o :: rest) a w := wpLoadX KT Tryz.underlying159 rfl x ho g off hx y hr hw h
section
set_option maxRecDepth 10000
set_option maxHeartbeats 4000000
theorem broot_any (v : Value) (L : List Tq) (w : World) (hL : LQ w v L) (hn : L.length < 4398046511104) (hK : Kg w) : Calls Tryz.prog 141 #[v] w fun e w' => e = .returned (.tuple #[.agg (hc (rtL (idsL L))), .bool (muL (idsL L))]) ∧ Below w.heap.size w w' := by
  obtain ⟨ao, cap, rfl⟩ := hL.l.form
  obtain ⟨i0, z, hi, hz, hzs, hs, hby⟩ := EH.parts
  have b1 := (Below.refl w.heap.size w).alloc (Nat.le_refl _) (.cells (hc zeros) 46)
  have R1 := hide (heap_alloc_last w (.cells (hc zeros) 46))
  have B1 := hide b1
  have HL := hide (hL.below b1)
  have KS := hide (hK.next b1)
  have HN := hide hn
  have IDL := hide (idsL_len L)
  have HR : Hid (∀ v W, LH W v (idsL L) → Kg W → Calls Tryz.prog 183 #[v] W fun e w' => e = .returned (.tuple #[.agg (hc (rtL (idsL L))), .bool (muL (idsL L))]) ∧ Below W.heap.size W w') := fun v W l k => by
    by_cases h0 : L = []
    · subst h0
      exact root_none v W l
    · exact root_some v (idsL L) W l (by rw [idsL_len]; exact List.length_pos_iff.2 h0) (by rw [idsL_len]; exact hn) k
  have RL := hide (rtL_len (idsL_32 L))
  have HID : Hid (∀ (x : Tq) W, x.can W → Kg W → Calls Tryz.prog 182 #[.agg x.arr] W fun e w' => e = .returned (.tuple #[.agg (hc x.m.idT), .int .i64 x.m.toldE]) ∧ Below W.heap.size W w') := fun x W c k => id_any x.m x.ai x.ci x.ao x.co W k c.1 c.2
  clear hL hK b1
  go_enter Tryz.func141, Tryz.ntmps141
  go_upto_region 1 with ((with_reducible refine at_list ?_); refine wpList_allocA A25 rfl rfl ?_)
  generalize w.alloc (.cells (hc zeros) 46) = W0 at *
  go_upto_region 2 with (at_make; refine wpList_make_own _ rfl _ _ 40 rfl 0 46 i0 z 32 Tryz.underlying40 hi hz hs _ _ _ L.length rfl rfl (by omega) (by rw [hby]; omega) (by unfold maxLen; omega) (Nat.zero_le _) ?_; intro w2 hown1 hgrow1)
  have J0 : Hid (Oj 46 W0 w2 (.slice (some ⟨W0.heap.size, 0, none⟩) 0 L.length) ((idsL L).take 0)) := ⟨⟨H32.nil, hown1⟩, (Below.refl _ _).grown hgrow1 (Nat.le_refl _) (by intro k hk; cases hk), fun g hg => by cases hg; exact Nat.le_refl _⟩
  clear hown1 hgrow1 hi hz hzs hs hby hn
  go_upto_region 3 with fail
  go_loopw [4, 14] (fun v d wr => ∃ k : Nat, k ≤ L.length ∧ d = .int .i64 (k : Int) ∧ Hid (Oj 46 W0 wr v ((idsL L).take k))) (fun _ d _ => (L.length - intOf d).toNat)
  case atStart => exact ⟨0, Nat.zero_le _, rfl, J0⟩
  case round =>
    clear J0
    obtain ⟨k, hk, rfl, J⟩ := hrel
    by_cases hlt : k < L.length
    · have h1 : (k : Int) < (L.length : Int) := by omega
      have h2 : (0 : Int) ≤ (k : Int) := by omega
      have hn := HN.out
      have e1 : IntKind.i64.wrap ((k : Int) + 1) = k + 1 := wrapI _ (by omega) (by omega)
      have KK := hide (And.intro (show k + 1 ≤ L.length by omega) (show ((L.length : Int) - ((k : Int) + 1)).toNat < ((L.length : Int) - (k : Int)).toNat by omega))
      obtain ⟨ga, oa, rfl⟩ := HL.out.l.base (by omega)
      have RG : Hid (wr.rangeAt ga (oa + k * 4) L[k].cells) := (HL.out.below J.out.bel).l.range k hlt
      have CN := hide (fun W (b : Below W0.heap.size W0 W) => (HL.out.at k hlt).below b)
      have SN := hide (idsL_next L k hlt)
      have SZ := hide (show ((idsL L).take k).length + 1 ≤ 4398046511104 by rw [List.length_take, IDL.out]; omega)
      generalize L[k] = x at *
      clear hk hlt hn
      go_upto_region 5 with ((with_reducible refine at_list ?_); first | refine wpLoadT _ rfl ga (oa + k * 4) rfl x RG.out (by rfl) ?_ | refine wpList_allocA AT rfl rfl ?_ | refine wpList_store_newA AT rfl _ _ rfl _ rfl x.arr rfl (x.m.one _ _ _ _) rfl rfl ?_)
      have J1 := hide (J.out.next ((Below.refl wr.heap.size wr).alloc (Nat.le_refl _) (.cells x.arr 159)))
      have RX := hide (heap_alloc_last wr (.cells x.arr 159))
      have IL := hide x.m.idT_len
      have HIx := hide (fun W c k => HID.out x W c k)
      have XZ : Hid (x.arr.size = 4) := rfl
      clear J RG
      generalize wr.alloc (.cells x.arr 159) = W1 at *
      generalize wr.heap.size = g6 at *
      generalize x.arr = C at *
      generalize x.m.idT = D at *
      generalize x.m.toldE = E at *
      go_upto_region 6 with (first | (go_at_call 182; refine (HIx.out _ (CN.out _ J1.out.bel) (KS.out.next J1.out.bel)).mono ?_; rintro r W2 ⟨rfl, be⟩; have J2 := hide (J1.out.next be); clear be) | ((with_reducible refine at_list ?_); first | refine wpList_loadS AT _ rfl g6 rfl C XZ.out 159 RX.out (by rfl) ?_ | refine wpList_allocA A25 rfl rfl ?_ | refine wpList_store_newA A25 rfl _ _ rfl _ rfl (hc D) (by rw [hc_size, IL.out]) (hc_one _) rfl rfl ?_))
      have J3 := hide (J2.out.next ((Below.refl W2.heap.size W2).alloc (Nat.le_refl _) (.cells (hc D) 46)))
      have RD := hide (heap_alloc_last W2 (.cells (hc D) 46))
      have DZ : Hid ((hc D).size = 32) := by show _ = _; rw [hc_size, IL.out]
      clear J1 J2 RX
      generalize W2.alloc (.cells (hc D) 46) = W3 at *
      generalize W2.heap.size = g7 at *
      have J4 := hide (J3.out.next ((Below.refl W3.heap.size W3).alloc (Nat.le_refl _) (.cells (hc D) 46)))
      go_wp2_with ((with_reducible refine at_list ?_); first | refine wpList_loadS A25 _ rfl g7 rfl (hc D) DZ.out 46 RD.out (by rfl) ?_ | refine ET.wpBs1 EH rfl _ rfl D IL.out rfl ?_ | (refine ET.wpApp EH rfl _ _ rfl _ _ rfl J4.out.own ⟨_, 0, none⟩ D IL.out rfl (one_newH _ _) SZ.out ?_; intro v' W5 hown' hon5; have J5 := hide (J4.out.onto hon5 hown'); clear hown' hon5))
      exact ⟨⟨k + 1, KK.out.1, by go_num, by rw [← SN.out]; exact J5⟩, by simpa [intOf] using KK.out.2⟩
    · have h1 : ¬ (k : Int) < (L.length : Int) := by omega
      have JR := J.out
      rw [List.take_of_length_le (by rw [IDL.out]; omega)] at JR
      have J2 := hide JR
      have R2 := hide ((JR.bel.block _ (lt_heap R1.out)).trans R1.out)
      clear hk hlt J JR
      generalize hrt : rtL (idsL L) = D at *
      generalize hmu : muL (idsL L) = V at *
      have HRT := hide hrt
      have HMU := hide hmu
      clear hrt hmu
      go_wp2_with (first | (go_at_call 183; refine (HR.out _ _ J2.out.own.read (KS.out.next J2.out.bel)).mono ?_; rintro r W2 ⟨rfl, be⟩; have D2 := hide (below_next J2.out.bel be); have R3 := hide ((be.block _ (lt_heap R2.out)).trans R2.out); clear be) | ((with_reducible refine at_list ?_); refine wpList_storeA A25 rfl _ _ rfl w.heap.size (hc D) (by rw [hc_size, RL.out]) (hc_one _) rfl rfl (hc zeros) (by rw [hc_size, zeros_len]) 46 R3.out ?_))
      exact bodyPost_ret (v := .tuple #[.agg (hc D), .bool V]) (resA2K A25 Tryz.results141 _ _ w.heap.size 46 _ (by rw [hc_size, RL.out]) rfl (setRow_heap _ _ _ _ _ _ R3.out) _ rfl) rfl ⟨by rw [HRT.out, HMU.out], below_setRow (below_next B1.out D2.out) (Nat.le_refl _) _⟩
end
end Go.Proofs.YthhojpplbhnnfaaGreatDoor
namespace Go.Proofs.YthhojpplbhnnfaaGreatDoor
open Go.RowKit
open Go.Deep
set_option linter.unusedVariables false
/-! ### Out -/
theorem eqslO (ao : Option Addr) (n c : Nat) (w : World) : (binOp .eql 157 (.slice ao n c) (.slice none 0 0)).run Tryz.prog w = .ok (.bool ao.isNone) w := by
  cases ao <;> kernel_rfl
theorem bs0O (w : World) : (Instr.buildSlice 157 0 #[]).run Tryz.prog w = .ok (.slice (some ⟨w.heap.size, 0, none⟩) 0 0) (w.alloc (.cells #[] 163)) := by
  kernel_rfl
section
set_option maxRecDepth 10000
set_option maxHeartbeats 4000000
theorem cloneO_any (v : Value) (L : List Tu) (w : World) (h : LX KO w v L) (hz : L.length * 24 ≤ 140737488355328) : Calls Tryz.prog 140 #[v] w fun e w' => ∃ v', e = .returned v' ∧ OX KO w' v' L ∧ Below w.heap.size w w' ∧ ∀ g, v'.ownBlock = some g → w.heap.size ≤ g := by
  obtain ⟨ao, cap, rfl⟩ := h.form
  rcases ao with _ | ad
  · have hL : L = [] := by
      rcases L with _ | ⟨x, r⟩
      · rfl
      · obtain ⟨_, _, e⟩ := h.base (by simp)
        cases e
    subst hL
    have hq := eqslO none 0 cap
    clear h
    go_enter Tryz.func140, Tryz.ntmps140
    go_wp2
    go_ret
    exact ⟨_, rfl, OX.nil _, Below.refl _ _, fun g hg => by cases hg⟩
  · have hq := eqslO (some ad) L.length cap
    have h5 := bs0O
    have O0 : Hid (OX KO (w.alloc (.cells #[] 163)) (.slice (some ⟨w.heap.size, 0, none⟩) 0 0) []) := World.ownsRow_made w #[] 0 (Nat.zero_le _) (Nat.zero_le _) rfl
    have HB := hide ((Below.refl w.heap.size w).alloc (Nat.le_refl _) (.cells #[] 163))
    have HN := hide (LX.news (h.below HB.out))
    have HZ : Hid (([] : List Tu).length + L.length ≤ maxLen ∧ (([] : List Tu).length + L.length) * KO.b ≤ 140737488355328) := ⟨show 0 + L.length ≤ 9223372036854775807 by omega, show (0 + L.length) * 24 ≤ _ by omega⟩
    clear h hz
    go_enter Tryz.func140, Tryz.ntmps140
    go_wp2_with (at_builtin; refine Ek.wpApp KO rfl _ _ rfl _ [] rfl O0.out ad L.length cap L rfl rfl HN.out HZ.out.2 HZ.out.1 ?_; intro v' w' ho on; have OB := hide (And.intro ho on); clear ho on)
    go_ret
    obtain ⟨o, on⟩ := OB.out
    have hsz : w.heap.size ≤ (w.alloc (.cells #[] 163)).heap.size := HB.out.size
    exact ⟨_, rfl, o, HB.out.trans (on.below hsz (fun k hk => by cases hk; exact Nat.le_refl _)), on.far hsz (fun k hk => by cases hk; exact Nat.le_refl _)⟩
end
/-! ### In -/
theorem eqslA (ao : Option Addr) (n c : Nat) (w : World) : (binOp .eql 156 (.slice ao n c) (.slice none 0 0)).run Tryz.prog w = .ok (.bool ao.isNone) w := by
  cases ao <;> kernel_rfl
theorem bs0A (w : World) : (Instr.buildSlice 156 0 #[]).run Tryz.prog w = .ok (.slice (some ⟨w.heap.size, 0, none⟩) 0 0) (w.alloc (.cells #[] 222)) := by
  kernel_rfl
section
set_option maxRecDepth 10000
set_option maxHeartbeats 4000000
theorem cloneA_any (v : Value) (L : List Ti) (w : World) (h : LX KA w v L) (hz : L.length * 64 ≤ 140737488355328) : Calls Tryz.prog 188 #[v] w fun e w' => ∃ v', e = .returned v' ∧ OX KA w' v' L ∧ Below w.heap.size w w' ∧ ∀ g, v'.ownBlock = some g → w.heap.size ≤ g := by
  obtain ⟨ao, cap, rfl⟩ := h.form
  rcases ao with _ | ad
  · have hL : L = [] := by
      rcases L with _ | ⟨x, r⟩
      · rfl
      · obtain ⟨_, _, e⟩ := h.base (by simp)
        cases e
    subst hL
    have hq := eqslA none 0 cap
    clear h
    go_enter Tryz.func188, Tryz.ntmps188
    go_wp2
    go_ret
    exact ⟨_, rfl, OX.nil _, Below.refl _ _, fun g hg => by cases hg⟩
  · have hq := eqslA (some ad) L.length cap
    have h5 := bs0A
    have O0 : Hid (OX KA (w.alloc (.cells #[] 222)) (.slice (some ⟨w.heap.size, 0, none⟩) 0 0) []) := World.ownsRow_made w #[] 0 (Nat.zero_le _) (Nat.zero_le _) rfl
    have HB := hide ((Below.refl w.heap.size w).alloc (Nat.le_refl _) (.cells #[] 222))
    have HN := hide (LX.news (h.below HB.out))
    have HZ : Hid (([] : List Ti).length + L.length ≤ maxLen ∧ (([] : List Ti).length + L.length) * KA.b ≤ 140737488355328) := ⟨show 0 + L.length ≤ 9223372036854775807 by omega, show (0 + L.length) * 64 ≤ _ by omega⟩
    clear h hz
    go_enter Tryz.func188, Tryz.ntmps188
    go_wp2_with (at_builtin; refine Ek.wpApp KA rfl _ _ rfl _ [] rfl O0.out ad L.length cap L rfl rfl HN.out HZ.out.2 HZ.out.1 ?_; intro v' w' ho on; have OB := hide (And.intro ho on); clear ho on)
    go_ret
    obtain ⟨o, on⟩ := OB.out
    have hsz : w.heap.size ≤ (w.alloc (.cells #[] 222)).heap.size := HB.out.size
    exact ⟨_, rfl, o, HB.out.trans (on.below hsz (fun k hk => by cases hk; exact Nat.le_refl _)), on.far hsz (fun k hk => by cases hk; exact Nat.le_refl _)⟩
end
/-! ### Tx -/
theorem eqslT (ao : Option Addr) (n c : Nat) (w : World) : (binOp .eql 94 (.slice ao n c) (.slice none 0 0)).run Tryz.prog w = .ok (.bool ao.isNone) w := by
  cases ao <;> kernel_rfl
theorem bs0T (w : World) : (Instr.buildSlice 94 0 #[]).run Tryz.prog w = .ok (.slice (some ⟨w.heap.size, 0, none⟩) 0 0) (w.alloc (.cells #[] 159)) := by
  kernel_rfl
section
set_option maxRecDepth 10000
set_option maxHeartbeats 4000000
theorem cloneT_any (v : Value) (L : List Tq) (w : World) (h : LX KT w v L) (hz : L.length * 64 ≤ 140737488355328) : Calls Tryz.prog 187 #[v] w fun e w' => ∃ v', e = .returned v' ∧ OX KT w' v' L ∧ Below w.heap.size w w' ∧ ∀ g, v'.ownBlock = some g → w.heap.size ≤ g := by
  obtain ⟨ao, cap, rfl⟩ := h.form
  rcases ao with _ | ad
  · have hL : L = [] := by
      rcases L with _ | ⟨x, r⟩
      · rfl
      · obtain ⟨_, _, e⟩ := h.base (by simp)
        cases e
    subst hL
    have hq := eqslT none 0 cap
    clear h
    go_enter Tryz.func187, Tryz.ntmps187
    go_wp2
    go_ret
    exact ⟨_, rfl, OX.nil _, Below.refl _ _, fun g hg => by cases hg⟩
  · have hq := eqslT (some ad) L.length cap
    have h5 := bs0T
    have O0 : Hid (OX KT (w.alloc (.cells #[] 159)) (.slice (some ⟨w.heap.size, 0, none⟩) 0 0) []) := World.ownsRow_made w #[] 0 (Nat.zero_le _) (Nat.zero_le _) rfl
    have HB := hide ((Below.refl w.heap.size w).alloc (Nat.le_refl _) (.cells #[] 159))
    have HN := hide (LX.news (h.below HB.out))
    have HZ : Hid (([] : List Tq).length + L.length ≤ maxLen ∧ (([] : List Tq).length + L.length) * KT.b ≤ 140737488355328) := ⟨show 0 + L.length ≤ 9223372036854775807 by omega, show (0 + L.length) * 64 ≤ _ by omega⟩
    clear h hz
    go_enter Tryz.func187, Tryz.ntmps187
    go_wp2_with (at_builtin; refine Ek.wpApp KT rfl _ _ rfl _ [] rfl O0.out ad L.length cap L rfl rfl HN.out HZ.out.2 HZ.out.1 ?_; intro v' w' ho on; have OB := hide (And.intro ho on); clear ho on)
    go_ret
    obtain ⟨o, on⟩ := OB.out
    have hsz : w.heap.size ≤ (w.alloc (.cells #[] 159)).heap.size := HB.out.size
    exact ⟨_, rfl, o, HB.out.trans (on.below hsz (fun k hk => by cases hk; exact Nat.le_refl _)), on.far hsz (fun k hk => by cases hk; exact Nat.le_refl _)⟩
end
end Go.Proofs.YthhojpplbhnnfaaGreatDoor
namespace Go.Proofs.YthhojpplbhnnfaaGreatDoor
open Go.RowKit
open Go.Deep
set_option linter.unusedVariables false
/-- What outputs pay, behind those that pay n. -/
def paidR (n : Nat) : List Tu → Nat × Int
  | [] => (n, 0)
  | x :: r => if 1000000 < x.val.toNat + n then (0, 103) else paidR (n + x.val.toNat) r
def Tm.paid (m : Tm) : Nat × Int := paidR 0 m.outs
theorem paidR_no (L : List Tu) (k A : Nat) (h : k < L.length) (hq : 1000000 < L[k].val.toNat + A) : paidR A (L.drop k) = (0, 103) := by
  rw [List.drop_eq_getElem_cons h, paidR, if_pos hq]
theorem paidR_yes (L : List Tu) (k A : Nat) (h : k < L.length) (hq : ¬ 1000000 < L[k].val.toNat + A) : paidR A (L.drop k) = paidR (A + L[k].val.toNat) (L.drop (k + 1)) := by
  rw [List.drop_eq_getElem_cons h, paidR, if_neg hq]
section
set_option maxRecDepth 10000
set_option maxHeartbeats 4000000
end
end Go.Proofs.YthhojpplbhnnfaaGreatDoor
namespace Go.Proofs.YthhojpplbhnnfaaGreatDoor
open Go.RowKit
open Go.Deep
set_option linter.unusedVariables false
/-- The point of a coinbase's input. -/
def nullP : Tp := ⟨zeros, 4294967295, zeros_len⟩
theorem bldP (W : World) : (Instr.build 220 #[(1, .int .u32 4294967295)]).run Tryz.prog W = .ok (.agg nullP.cells.toArray) W := by kernel_rfl
def Tm.base (m : Tm) : Bool := match m.ins with
  | [x] => decide (x.pt = nullP)
  | _ => false
theorem Tm.base_one (m : Tm) (h : m.ins.length = 1) : m.base = decide ((m.ins[0]'(by omega)).pt = nullP) := by
  obtain ⟨v, L, O, t⟩ := m
  match L, h with
  | [x], _ => rfl
theorem Tm.base_no (m : Tm) (h : m.ins.length ≠ 1) : m.base = false := by
  obtain ⟨v, L, O, t⟩ := m
  match L, h with
  | [], _ => rfl
  | [x], h => exact absurd rfl h
  | _ :: _ :: _, _ => rfl
section
set_option maxRecDepth 10000
set_option maxHeartbeats 4000000
theorem AH32 : Arr 45 32 (hc zeros) := ⟨.inl ⟨_, _, Tryz.underlying45⟩, by kernel_rfl, fun w => by kernel_rfl, fun w => by kernel_rfl, by rw [hc_size, zeros_len]⟩
theorem wpLoadH32 {w : World} {ops : Array Oper} {rest : List Oper} {o : Oper} {a : Act} {Q : Exit → Act → World → Prop} (x : Operand) (ho : o.op = .load 45 x) (g off : Nat) (hx : a.eval x = .pointer (some ⟨g, off, none⟩)) (y : List UInt8) (hy : y.length = 32) (hr : w.rangeAt g off (cellsL y)) (hw : Region.wanted o (yielded ops a.tmps) = true)
    (h : wpList Tryz.prog ops Q rest (a.put o.dst (.agg (hc y))) w) : wpList Tryz.prog ops Q (o :: rest) a w := by
  have ld : (Instr.loadAt 45 (.pointer (some ⟨g, off, none⟩))).run Tryz.prog w = .ok (.agg (hc y)) w :=
    run_loadAt_mid w g off 45 _ _ hr Tryz.underlying45 rfl (by rw [cellsL_len, hy]; kernel_rfl)
  refine wpList_step fun K hK => ?_
  rw [if_pos hw]
  unfold Oper.wp execOp
  simp only [ho, hx, ld, Sem.run_bind, Result.andThen_ok, Sem.run_pure]
  exact hK _ _ h
theorem wpList_buildV {t : TypeId} {n : Nat} {z : Array Value} {w : World} {ops : Array Oper} {rest : List Oper} {o : Oper} {a : Act} {Q : Exit → Act → World → Prop} (A : Arr t n z) (ho : o.op = .build t #[]) (hw : Region.wanted o (yielded ops a.tmps) = true)
    (h : wpList Tryz.prog ops Q rest (a.put o.dst (.agg z)) w) : wpList Tryz.prog ops Q (o :: rest) a w := by
  refine wpList_step fun K hK => ?_
  rw [if_pos hw]
  unfold Oper.wp execOp
  simp only [ho, List.map_toArray, List.map_nil, A.build, Sem.run_bind, Result.andThen_ok, Sem.run_pure]
  exact hK _ _ h
theorem eqH32 (x y : List UInt8) (hx : x.length = 32) (hy : y.length = 32) (W : World) : (Op.equalIn 10000 45 (.agg (hc x)) (.agg (hc y))).run Tryz.prog W = .ok (x == y) W :=
  eqC_bytes x y 32 hx hy 45 Tryz.underlying45 9998 W
theorem Ti.hashR {W : World} {g off : Nat} (x : Ti) (h : W.rangeAt g off x.cells) : W.rangeAt g off (cellsL x.hash) := fun j v hv => by
  refine h j v ?_
  rw [Ti.cells, List.getElem?_append_left (List.getElem?_eq_some_iff.1 hv).1]
  exact hv
theorem Ti.idxR {W : World} {g off : Nat} (x : Ti) (h : W.rangeAt g off x.cells) : W.cell? ⟨g, off + 32, none⟩ = some (.int .u32 (x.idx.toNat : Int)) := h 32 _ (by rw [← List.getElem?_toArray]; exact x.at32)
end
end Go.Proofs.YthhojpplbhnnfaaGreatDoor
