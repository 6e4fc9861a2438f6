/- Lists of transactions; the contract of block.Root. slices.Clone of outputs, inputs and transactions: the contracts. tx.Paid and the document's Paid: their contracts. -/
import Derived.Test.YtofddbjnncgmlaaGreatDoorX24
import Derived.Test.YtofddbjnncgmlaaGreatDoorX27
import Derived.Test.YtofddbjnncgmlaaGreatDoorX29
namespace Go.Proofs.YtofddbjnncgmlaaGreatDoor
open Go.RowKit
open Go.Deep
set_option linter.unusedVariables false
/-- A transaction and where its lists lie. -/
structure Tq where
  m : Tm
  ai : Option Addr
  ci : Nat
  ao : Option Addr
  co : Nat
def Tq.cells (x : Tq) : List Value := [.int .u32 (x.m.ver.toNat : Int), .slice x.ai x.m.ins.length x.ci, .slice x.ao x.m.outs.length x.co, .int .u32 (x.m.time.toNat : Int)]
def Tq.arr (x : Tq) : Array Value := x.m.cells x.ai x.ci x.ao x.co
theorem Tq.arr_eq (x : Tq) : x.cells.toArray = x.arr := rfl
theorem Tq.one (x : Tq) : ∀ v ∈ x.cells, v.oneCell' = true := by
  intro v hv
  simp only [Tq.cells, List.mem_cons, List.not_mem_nil, or_false] at hv
  rcases hv with rfl | rfl | rfl | rfl <;> rfl
def KT : Ek Tq := ⟨91, 190, 4, 64, Tq.cells, by decide, by decide, Tryz.underlying91, by kernel_rfl, fun _ => rfl, Tq.one⟩
def Tq.can (w : World) (x : Tq) : Prop := LT w x.m x.ai x.ci x.ao x.co ∧ x.m.fit
theorem Tq.can.below {w W : World} {x : Tq} (h : x.can w) (b : Below w.heap.size w W) : x.can W := ⟨h.1.below b, h.2⟩
/-- A slice of transactions that can be read. -/
structure LQ (w : World) (v : Value) (L : List Tq) : Prop where
  l : LX KT w v L
  t : ∀ x ∈ L, x.can w
theorem LQ.below {w W : World} {v : Value} {L : List Tq} (h : LQ w v L) (b : Below w.heap.size w W) : LQ W v L := ⟨h.l.below b, fun x hx => (h.t x hx).below b⟩
theorem LQ.at {w : World} {v : Value} {L : List Tq} (h : LQ w v L) (k : Nat) (hk : k < L.length) : L[k].can w := h.t _ (List.getElem_mem hk)
/-- The ids of transactions. -/
def idsL (L : List Tq) : List (List UInt8) := L.map (fun x => x.m.idT)
theorem idsL_len (L : List Tq) : (idsL L).length = L.length := by simp [idsL]
theorem idsL_32 (L : List Tq) : H32 (idsL L) := by
  intro l hl
  simp only [idsL, List.mem_map] at hl
  obtain ⟨x, _, rfl⟩ := hl
  exact x.m.idT_len
theorem idsL_next (L : List Tq) (k : Nat) (hk : k < L.length) : (idsL L).take k ++ [L[k].m.idT] = (idsL L).take (k + 1) := by
  rw [← List.take_append_getElem (show k < (idsL L).length by rw [idsL_len]; exact hk)]
  simp [idsL]
theorem wpLoadT {w : World} {ops : Array Oper} {rest : List Oper} {o : Oper} {a : Act} {Q : Exit → Act → World → Prop} (x : Operand) (ho : o.op = .load 190 x) (g off : Nat) (hx : a.eval x = .pointer (some ⟨g, off, none⟩)) (y : Tq) (hr : w.rangeAt g off y.cells) (hw : Region.wanted o (yielded ops a.tmps) = true)
    (h : wpList Tryz.prog ops Q rest (a.put o.dst (.agg y.arr)) w) : wpList Tryz.prog ops Q (o :: rest) a w := wpLoadX KT Tryz.underlying190 rfl x ho g off hx y hr hw h
section
set_option maxRecDepth 10000
set_option maxHeartbeats 4000000
theorem broot_any (v : Value) (L : List Tq) (w : World) (hL : LQ w v L) (hn : L.length < 4398046511104) (hK : Kg w) : Calls Tryz.prog 94 #[v] w fun e w' => e = .returned (.tuple #[.agg (hc (rtL (idsL L))), .bool (muL (idsL L))]) ∧ Below w.heap.size w w' := by
  obtain ⟨ao, cap, rfl⟩ := hL.l.form
  obtain ⟨i0, z, hi, hz, hzs, hs, hby⟩ := EH.parts
  have b1 := (Below.refl w.heap.size w).alloc (Nat.le_refl _) (.cells (hc zeros) 46)
  have R1 := hide (heap_alloc_last w (.cells (hc zeros) 46))
  have B1 := hide b1
  have HL := hide (hL.below b1)
  have KS := hide (hK.next b1)
  have HN := hide hn
  have IDL := hide (idsL_len L)
  have HR : Hid (∀ v W, LH W v (idsL L) → Kg W → Calls Tryz.prog 187 #[v] W fun e w' => e = .returned (.tuple #[.agg (hc (rtL (idsL L))), .bool (muL (idsL L))]) ∧ Below W.heap.size W w') := fun v W l k => by
    by_cases h0 : L = []
    · subst h0
      exact root_none v W l
    · exact root_some v (idsL L) W l (by rw [idsL_len]; exact List.length_pos_iff.2 h0) (by rw [idsL_len]; exact hn) k
  have RL := hide (rtL_len (idsL_32 L))
  have HID : Hid (∀ (x : Tq) W, x.can W → Kg W → Calls Tryz.prog 95 #[.agg x.arr] W fun e w' => e = .returned (.tuple #[.agg (hc x.m.idT), .int .i64 x.m.toldE]) ∧ Below W.heap.size W w') := fun x W c k => id_any x.m x.ai x.ci x.ao x.co W k c.1 c.2
  clear hL hK b1
  go_enter Tryz.func94, Tryz.ntmps94
  go_upto_region 1 with ((with_reducible refine at_list ?_); refine wpList_allocA A25 rfl rfl ?_)
  generalize w.alloc (.cells (hc zeros) 46) = W0 at *
  go_upto_region 2 with (at_make; refine wpList_make_own _ rfl _ _ 40 rfl 0 46 i0 z 32 Tryz.underlying40 hi hz hs _ _ _ L.length rfl rfl (by omega) (by rw [hby]; omega) (by unfold maxLen; omega) (Nat.zero_le _) ?_; intro w2 hown1 hgrow1)
  have J0 : Hid (Oj 46 W0 w2 (.slice (some ⟨W0.heap.size, 0, none⟩) 0 L.length) ((idsL L).take 0)) := ⟨⟨H32.nil, hown1⟩, (Below.refl _ _).grown hgrow1 (Nat.le_refl _) (by intro k hk; cases hk), fun g hg => by cases hg; exact Nat.le_refl _⟩
  clear hown1 hgrow1 hi hz hzs hs hby hn
  go_upto_region 3 with fail
  go_loopw [4, 14] (fun v d wr => ∃ k : Nat, k ≤ L.length ∧ d = .int .i64 (k : Int) ∧ Hid (Oj 46 W0 wr v ((idsL L).take k))) (fun _ d _ => (L.length - intOf d).toNat)
  case atStart => exact ⟨0, Nat.zero_le _, rfl, J0⟩
  case round =>
    clear J0
    obtain ⟨k, hk, rfl, J⟩ := hrel
    by_cases hlt : k < L.length
    · have h1 : (k : Int) < (L.length : Int) := by omega
      have h2 : (0 : Int) ≤ (k : Int) := by omega
      have hn := HN.out
      have e1 : IntKind.i64.wrap ((k : Int) + 1) = k + 1 := wrapI _ (by omega) (by omega)
      have KK := hide (And.intro (show k + 1 ≤ L.length by omega) (show ((L.length : Int) - ((k : Int) + 1)).toNat < ((L.length : Int) - (k : Int)).toNat by omega))
      obtain ⟨ga, oa, rfl⟩ := HL.out.l.base (by omega)
      have RG : Hid (wr.rangeAt ga (oa + k * 4) L[k].cells) := (HL.out.below J.out.bel).l.range k hlt
      have CN := hide (fun W (b : Below W0.heap.size W0 W) => (HL.out.at k hlt).below b)
      have SN := hide (idsL_next L k hlt)
      have SZ := hide (show ((idsL L).take k).length + 1 ≤ 4398046511104 by rw [List.length_take, IDL.out]; omega)
      generalize L[k] = x at *
      clear hk hlt hn
      go_upto_region 5 with ((with_reducible refine at_list ?_); first | refine wpLoadT _ rfl ga (oa + k * 4) rfl x RG.out (by rfl) ?_ | refine wpList_allocA AT rfl rfl ?_ | refine wpList_store_newA AT rfl _ _ rfl _ rfl x.arr rfl (x.m.one _ _ _ _) rfl rfl ?_)
      have J1 := hide (J.out.next ((Below.refl wr.heap.size wr).alloc (Nat.le_refl _) (.cells x.arr 190)))
      have RX := hide (heap_alloc_last wr (.cells x.arr 190))
      have IL := hide x.m.idT_len
      have HIx := hide (fun W c k => HID.out x W c k)
      have XZ : Hid (x.arr.size = 4) := rfl
      clear J RG
      generalize wr.alloc (.cells x.arr 190) = W1 at *
      generalize wr.heap.size = g6 at *
      generalize x.arr = C at *
      generalize x.m.idT = D at *
      generalize x.m.toldE = E at *
      go_upto_region 6 with (first | (go_at_call 95; refine (HIx.out _ (CN.out _ J1.out.bel) (KS.out.next J1.out.bel)).mono ?_; rintro r W2 ⟨rfl, be⟩; have J2 := hide (J1.out.next be); clear be) | ((with_reducible refine at_list ?_); first | refine wpList_loadS AT _ rfl g6 rfl C XZ.out 190 RX.out (by rfl) ?_ | refine wpList_allocA A25 rfl rfl ?_ | refine wpList_store_newA A25 rfl _ _ rfl _ rfl (hc D) (by rw [hc_size, IL.out]) (hc_one _) rfl rfl ?_))
      have J3 := hide (J2.out.next ((Below.refl W2.heap.size W2).alloc (Nat.le_refl _) (.cells (hc D) 46)))
      have RD := hide (heap_alloc_last W2 (.cells (hc D) 46))
      have DZ : Hid ((hc D).size = 32) := by show _ = _; rw [hc_size, IL.out]
      clear J1 J2 RX
      generalize W2.alloc (.cells (hc D) 46) = W3 at *
      generalize W2.heap.size = g7 at *
      have J4 := hide (J3.out.next ((Below.refl W3.heap.size W3).alloc (Nat.le_refl _) (.cells (hc D) 46)))
      go_wp2_with ((with_reducible refine at_list ?_); first | refine wpList_loadS A25 _ rfl g7 rfl (hc D) DZ.out 46 RD.out (by rfl) ?_ | refine ET.wpBs1 EH rfl _ rfl D IL.out rfl ?_ | (refine ET.wpApp EH rfl _ _ rfl _ _ rfl J4.out.own ⟨_, 0, none⟩ D IL.out rfl (one_newH _ _) SZ.out ?_; intro v' W5 hown' hon5; have J5 := hide (J4.out.onto hon5 hown'); clear hown' hon5))
      exact ⟨⟨k + 1, KK.out.1, by go_num, by rw [← SN.out]; exact J5⟩, by simpa [intOf] using KK.out.2⟩
    · have h1 : ¬ (k : Int) < (L.length : Int) := by omega
      have JR := J.out
      rw [List.take_of_length_le (by rw [IDL.out]; omega)] at JR
      have J2 := hide JR
      have R2 := hide ((JR.bel.block _ (lt_heap R1.out)).trans R1.out)
      clear hk hlt J JR
      generalize hrt : rtL (idsL L) = D at *
      generalize hmu : muL (idsL L) = V at *
      have HRT := hide hrt
      have HMU := hide hmu
      clear hrt hmu
      go_wp2_with (first | (go_at_call 187; refine (HR.out _ _ J2.out.own.read (KS.out.next J2.out.bel)).mono ?_; rintro r W2 ⟨rfl, be⟩; have D2 := hide (below_next J2.out.bel be); have R3 := hide ((be.block _ (lt_heap R2.out)).trans R2.out); clear be) | ((with_reducible refine at_list ?_); refine wpList_storeA A25 rfl _ _ rfl w.heap.size (hc D) (by rw [hc_size, RL.out]) (hc_one _) rfl rfl (hc zeros) (by rw [hc_size, zeros_len]) 46 R3.out ?_))
      exact bodyPost_ret (v := .tuple #[.agg (hc D), .bool V]) (resA2K A25 Tryz.results94 _ _ w.heap.size 46 _ (by rw [hc_size, RL.out]) rfl (setRow_heap _ _ _ _ _ _ R3.out) _ rfl) rfl ⟨by rw [HRT.out, HMU.out], below_setRow (below_next B1.out D2.out) (Nat.le_refl _) _⟩
end
end Go.Proofs.YtofddbjnncgmlaaGreatDoor
namespace Go.Proofs.YtofddbjnncgmlaaGreatDoor
open Go.RowKit
open Go.Deep
set_option linter.unusedVariables false
/-! ### Out -/
theorem eqslO (ao : Option Addr) (n c : Nat) (w : World) : (binOp .eql 188 (.slice ao n c) (.slice none 0 0)).run Tryz.prog w = .ok (.bool ao.isNone) w := by
  cases ao <;> kernel_rfl
theorem bs0O (w : World) : (Instr.buildSlice 188 0 #[]).run Tryz.prog w = .ok (.slice (some ⟨w.heap.size, 0, none⟩) 0 0) (w.alloc (.cells #[] 193)) := by
  kernel_rfl
section
set_option maxRecDepth 10000
set_option maxHeartbeats 4000000
theorem cloneO_any (v : Value) (L : List Tu) (w : World) (h : LX KO w v L) (hz : L.length * 24 ≤ 140737488355328) : Calls Tryz.prog 186 #[v] w fun e w' => ∃ v', e = .returned v' ∧ OX KO w' v' L ∧ Below w.heap.size w w' ∧ ∀ g, v'.ownBlock = some g → w.heap.size ≤ g := by
  obtain ⟨ao, cap, rfl⟩ := h.form
  rcases ao with _ | ad
  · have hL : L = [] := by
      rcases L with _ | ⟨x, r⟩
      · rfl
      · obtain ⟨_, _, e⟩ := h.base (by simp)
        cases e
    subst hL
    have hq := eqslO none 0 cap
    clear h
    go_enter Tryz.func186, Tryz.ntmps186
    go_wp2
    go_ret
    exact ⟨_, rfl, OX.nil _, Below.refl _ _, fun g hg => by cases hg⟩
  · have hq := eqslO (some ad) L.length cap
    have h5 := bs0O
    have O0 : Hid (OX KO (w.alloc (.cells #[] 193)) (.slice (some ⟨w.heap.size, 0, none⟩) 0 0) []) := World.ownsRow_made w #[] 0 (Nat.zero_le _) (Nat.zero_le _) rfl
    have HB := hide ((Below.refl w.heap.size w).alloc (Nat.le_refl _) (.cells #[] 193))
    have HN := hide (LX.news (h.below HB.out))
    have HZ : Hid (([] : List Tu).length + L.length ≤ maxLen ∧ (([] : List Tu).length + L.length) * KO.b ≤ 140737488355328) := ⟨show 0 + L.length ≤ 9223372036854775807 by omega, show (0 + L.length) * 24 ≤ _ by omega⟩
    clear h hz
    go_enter Tryz.func186, Tryz.ntmps186
    go_wp2_with (at_builtin; refine Ek.wpApp KO rfl _ _ rfl _ [] rfl O0.out ad L.length cap L rfl rfl HN.out HZ.out.2 HZ.out.1 ?_; intro v' w' ho on; have OB := hide (And.intro ho on); clear ho on)
    go_ret
    obtain ⟨o, on⟩ := OB.out
    have hsz : w.heap.size ≤ (w.alloc (.cells #[] 193)).heap.size := HB.out.size
    exact ⟨_, rfl, o, HB.out.trans (on.below hsz (fun k hk => by cases hk; exact Nat.le_refl _)), on.far hsz (fun k hk => by cases hk; exact Nat.le_refl _)⟩
end
/-! ### In -/
theorem eqslA (ao : Option Addr) (n c : Nat) (w : World) : (binOp .eql 187 (.slice ao n c) (.slice none 0 0)).run Tryz.prog w = .ok (.bool ao.isNone) w := by
  cases ao <;> kernel_rfl
theorem bs0A (w : World) : (Instr.buildSlice 187 0 #[]).run Tryz.prog w = .ok (.slice (some ⟨w.heap.size, 0, none⟩) 0 0) (w.alloc (.cells #[] 223)) := by
  kernel_rfl
section
set_option maxRecDepth 10000
set_option maxHeartbeats 4000000
theorem cloneA_any (v : Value) (L : List Ti) (w : World) (h : LX KA w v L) (hz : L.length * 64 ≤ 140737488355328) : Calls Tryz.prog 294 #[v] w fun e w' => ∃ v', e = .returned v' ∧ OX KA w' v' L ∧ Below w.heap.size w w' ∧ ∀ g, v'.ownBlock = some g → w.heap.size ≤ g := by
  obtain ⟨ao, cap, rfl⟩ := h.form
  rcases ao with _ | ad
  · have hL : L = [] := by
      rcases L with _ | ⟨x, r⟩
      · rfl
      · obtain ⟨_, _, e⟩ := h.base (by simp)
        cases e
    subst hL
    have hq := eqslA none 0 cap
    clear h
    go_enter Tryz.func294, Tryz.ntmps294
    go_wp2
    go_ret
    exact ⟨_, rfl, OX.nil _, Below.refl _ _, fun g hg => by cases hg⟩
  · have hq := eqslA (some ad) L.length cap
    have h5 := bs0A
    have O0 : Hid (OX KA (w.alloc (.cells #[] 223)) (.slice (some ⟨w.heap.size, 0, none⟩) 0 0) []) := World.ownsRow_made w #[] 0 (Nat.zero_le _) (Nat.zero_le _) rfl
    have HB := hide ((Below.refl w.heap.size w).alloc (Nat.le_refl _) (.cells #[] 223))
    have HN := hide (LX.news (h.below HB.out))
    have HZ : Hid (([] : List Ti).length + L.length ≤ maxLen ∧ (([] : List Ti).length + L.length) * KA.b ≤ 140737488355328) := ⟨show 0 + L.length ≤ 9223372036854775807 by omega, show (0 + L.length) * 64 ≤ _ by omega⟩
    clear h hz
    go_enter Tryz.func294, Tryz.ntmps294
    go_wp2_with (at_builtin; refine Ek.wpApp KA rfl _ _ rfl _ [] rfl O0.out ad L.length cap L rfl rfl HN.out HZ.out.2 HZ.out.1 ?_; intro v' w' ho on; have OB := hide (And.intro ho on); clear ho on)
    go_ret
    obtain ⟨o, on⟩ := OB.out
    have hsz : w.heap.size ≤ (w.alloc (.cells #[] 223)).heap.size := HB.out.size
    exact ⟨_, rfl, o, HB.out.trans (on.below hsz (fun k hk => by cases hk; exact Nat.le_refl _)), on.far hsz (fun k hk => by cases hk; exact Nat.le_refl _)⟩
end
/-! ### Tx -/
theorem eqslT (ao : Option Addr) (n c : Nat) (w : World) : (binOp .eql 91 (.slice ao n c) (.slice none 0 0)).run Tryz.prog w = .ok (.bool ao.isNone) w := by
  cases ao <;> kernel_rfl
theorem bs0T (w : World) : (Instr.buildSlice 91 0 #[]).run Tryz.prog w = .ok (.slice (some ⟨w.heap.size, 0, none⟩) 0 0) (w.alloc (.cells #[] 190)) := by
  kernel_rfl
section
set_option maxRecDepth 10000
set_option maxHeartbeats 4000000
theorem cloneT_any (v : Value) (L : List Tq) (w : World) (h : LX KT w v L) (hz : L.length * 64 ≤ 140737488355328) : Calls Tryz.prog 293 #[v] w fun e w' => ∃ v', e = .returned v' ∧ OX KT w' v' L ∧ Below w.heap.size w w' ∧ ∀ g, v'.ownBlock = some g → w.heap.size ≤ g := by
  obtain ⟨ao, cap, rfl⟩ := h.form
  rcases ao with _ | ad
  · have hL : L = [] := by
      rcases L with _ | ⟨x, r⟩
      · rfl
      · obtain ⟨_, _, e⟩ := h.base (by simp)
        cases e
    subst hL
    have hq := eqslT none 0 cap
    clear h
    go_enter Tryz.func293, Tryz.ntmps293
    go_wp2
    go_ret
    exact ⟨_, rfl, OX.nil _, Below.refl _ _, fun g hg => by cases hg⟩
  · have hq := eqslT (some ad) L.length cap
    have h5 := bs0T
    have O0 : Hid (OX KT (w.alloc (.cells #[] 190)) (.slice (some ⟨w.heap.size, 0, none⟩) 0 0) []) := World.ownsRow_made w #[] 0 (Nat.zero_le _) (Nat.zero_le _) rfl
    have HB := hide ((Below.refl w.heap.size w).alloc (Nat.le_refl _) (.cells #[] 190))
    have HN := hide (LX.news (h.below HB.out))
    have HZ : Hid (([] : List Tq).length + L.length ≤ maxLen ∧ (([] : List Tq).length + L.length) * KT.b ≤ 140737488355328) := ⟨show 0 + L.length ≤ 9223372036854775807 by omega, show (0 + L.length) * 64 ≤ _ by omega⟩
    clear h hz
    go_enter Tryz.func293, Tryz.ntmps293
    go_wp2_with (at_builtin; refine Ek.wpApp KT rfl _ _ rfl _ [] rfl O0.out ad L.length cap L rfl rfl HN.out HZ.out.2 HZ.out.1 ?_; intro v' w' ho on; have OB := hide (And.intro ho on); clear ho on)
    go_ret
    obtain ⟨o, on⟩ := OB.out
    have hsz : w.heap.size ≤ (w.alloc (.cells #[] 190)).heap.size := HB.out.size
    exact ⟨_, rfl, o, HB.out.trans (on.below hsz (fun k hk => by cases hk; exact Nat.le_refl _)), on.far hsz (fun k hk => by cases hk; exact Nat.le_refl _)⟩
end
end Go.Proofs.YtofddbjnncgmlaaGreatDoor
namespace Go.Proofs.YtofddbjnncgmlaaGreatDoor
open Go.RowKit
open Go.Deep
set_option linter.unusedVariables false
/-- What outputs pay, behind those that pay n. -/
def paidR (n : Nat) : List Tu → Nat × Int
  | [] => (n, 0)
  | x :: r => if 1000000 < x.val.toNat + n then (0, 103) else paidR (n + x.val.toNat) r
def Tm.paid (m : Tm) : Nat × Int := paidR 0 m.outs
theorem paidR_no (L : List Tu) (k A : Nat) (h : k < L.length) (hq : 1000000 < L[k].val.toNat + A) : paidR A (L.drop k) = (0, 103) := by
  rw [List.drop_eq_getElem_cons h, paidR, if_pos hq]
theorem paidR_yes (L : List Tu) (k A : Nat) (h : k < L.length) (hq : ¬ 1000000 < L[k].val.toNat + A) : paidR A (L.drop k) = paidR (A + L[k].val.toNat) (L.drop (k + 1)) := by
  rw [List.drop_eq_getElem_cons h, paidR, if_neg hq]
section
set_option maxRecDepth 10000
set_option maxHeartbeats 4000000
theorem paid_any (m : Tm) (ai : Option Addr) (ci : Nat) (ao : Option Addr) (co : Nat) (w : World) (hl : LT w m ai ci ao co) (hf : m.fit) : Calls Tryz.prog 229 #[.agg (m.cells ai ci ao co)] w fun e w' => e = .returned (.tuple #[.int .u64 (m.paid.1 : Int), .int .i64 m.paid.2]) ∧ Below w.heap.size w w' := by
  have b1 := (Below.refl w.heap.size w).alloc (Nat.le_refl _) (.cells (m.cells ai ci ao co) 190)
  have r1 := heap_alloc_last w (.cells (m.cells ai ci ao co) 190)
  have c1 : (w.alloc (.cells (m.cells ai ci ao co) 190)).cell? ⟨w.heap.size, 2, none⟩ = some (.slice ao m.outs.length co) := by rw [cell_of_row _ _ _ _ _ _ r1]; rfl
  have HF := hide hf
  have HL := hide (hl.below b1)
  have B1 := hide b1
  clear hf hl b1 r1
  generalize m.cells ai ci ao co = C at *
  unfold Tm.paid
  go_enter Tryz.func229, Tryz.ntmps229
  go_upto_region 1 with ((with_reducible refine at_list ?_); refine wpList_boxA rfl _ rfl C rfl ?_)
  generalize w.alloc (.cells C 190) = W1 at *
  go_upto_region 3 with fail
  clear c1
  go_loopw [4, 10] (fun s i wr => ∃ k A : Nat, k ≤ m.outs.length ∧ i = .int .i64 (k : Int) ∧ s = .int .u64 (A : Int) ∧ Hid ((A ≤ 1000000 ∧ paidR A (m.outs.drop k) = paidR 0 m.outs) ∧ Below W1.heap.size W1 wr)) (fun _ i _ => (m.outs.length - intOf i).toNat)
  case atStart => exact ⟨0, 0, Nat.zero_le _, rfl, rfl, ⟨by omega, rfl⟩, Below.refl _ _⟩
  case round =>
    obtain ⟨k, A, hk, rfl, rfl, J⟩ := hrel
    by_cases hlt : k < m.outs.length
    · have h1 : (k : Int) < (m.outs.length : Int) := by omega
      have h2 : (0 : Int) ≤ (k : Int) := by omega
      have h5 := HF.out.o
      have e1 : IntKind.i64.wrap ((k : Int) + 1) = k + 1 := wrapI _ (by omega) (by omega)
      have KK := hide (And.intro (show k + 1 ≤ m.outs.length by omega) (show ((m.outs.length : Int) - ((k : Int) + 1)).toNat < ((m.outs.length : Int) - (k : Int)).toNat by omega))
      obtain ⟨ga, oa, rfl⟩ := HL.out.o.base (by omega)
      have RG : Hid (wr.rangeAt ga (oa + k * 2) m.outs[k].cells) := (HL.out.below J.out.2).o.range k hlt
      have PN := hide (fun h => (paidR_no m.outs k A hlt h).symm.trans J.out.1.2)
      have PY := hide (fun h => (paidR_yes m.outs k A hlt h).symm.trans J.out.1.2)
      have JB := hide J.out.2
      have hA := J.out.1.1
      generalize m.outs[k] = x at *
      clear hk hlt h5 J
      go_upto_region 5 with ((with_reducible refine at_list ?_); first | refine wpLoadO _ rfl ga (oa + k * 2) rfl x RG.out (by rfl) ?_ | refine wpList_allocA AO rfl rfl ?_ | refine wpList_store_newA AO rfl _ _ rfl _ rfl x.cells.toArray rfl x.all rfl rfl ?_)
      have c5 : (wr.alloc (.cells x.cells.toArray 193)).cell? ⟨wr.heap.size, 0, none⟩ = some (.int .u64 (x.val.toNat : Int)) := by rw [cell_of_row _ _ _ _ _ _ (heap_alloc_last wr _)]; rfl
      have J2 : Hid (Below W1.heap.size W1 (wr.alloc (.cells x.cells.toArray 193))) := JB.out.alloc JB.out.size _
      generalize wr.alloc (.cells x.cells.toArray 193) = wr2 at *
      clear JB RG
      have hv := x.val.toNat_lt
      generalize x.val.toNat = V at *
      have e2 : IntKind.u64.wrap (1000000 - (A : Int)) = 1000000 - (A : Int) := wrapu _ (by omega) (by omega)
      by_cases hq : 1000000 < V + A
      · have hq2 : (V : Int) > 1000000 - (A : Int) := by omega
        have PN2 := hide (PN.out hq)
        clear hq PN PY hA hv
        go_wp2
        go_ret2
        exact ⟨by rw [← PN2.out]; rfl, B1.out.trans (J2.out.mono B1.out.size)⟩
      · have hq2 : ¬ (V : Int) > 1000000 - (A : Int) := by omega
        have e3 : IntKind.u64.wrap ((A : Int) + (V : Int)) = ((A + V : Nat) : Int) := by rw [wrapu _ (by omega) (by omega)]; omega
        have PY2 := hide (PY.out hq)
        have hA2 := hide (show A + V ≤ 1000000 by omega)
        clear hq PN PY hA hv
        go_wp2
        exact ⟨⟨k + 1, A + V, KK.out.1, by go_num, rfl, ⟨hA2.out, PY2.out⟩, J2.out⟩, by simpa [intOf] using KK.out.2⟩
    · have h1 : ¬ (k : Int) < (m.outs.length : Int) := by omega
      have PE := J.out.1.2
      rw [List.drop_of_length_le (by omega), paidR] at PE
      have PE2 := hide PE
      have JB := hide J.out.2
      clear J PE hk hlt
      go_wp2
      go_ret2
      exact ⟨by rw [← PE2.out]; rfl, B1.out.trans (JB.out.mono B1.out.size)⟩
theorem rpaid_any (m : Tm) (ai : Option Addr) (ci : Nat) (ao : Option Addr) (co : Nat) (w : World) (hl : LR w m ai ci ao co) (hf : m.fit) : Calls Tryz.prog 200 #[.agg (m.cells ai ci ao co)] w fun e w' => e = .returned (.tuple #[.int .u64 (m.paid.1 : Int), .int .i64 m.paid.2]) ∧ Below w.heap.size w w' := by
  have b1 := (Below.refl w.heap.size w).alloc (Nat.le_refl _) (.cells (m.cells ai ci ao co) 217)
  have r1 := heap_alloc_last w (.cells (m.cells ai ci ao co) 217)
  have c1 : (w.alloc (.cells (m.cells ai ci ao co) 217)).cell? ⟨w.heap.size, 2, none⟩ = some (.slice ao m.outs.length co) := by rw [cell_of_row _ _ _ _ _ _ r1]; rfl
  have HF := hide hf
  have HL := hide (hl.below b1)
  have B1 := hide b1
  clear hf hl b1 r1
  generalize m.cells ai ci ao co = C at *
  unfold Tm.paid
  go_enter Tryz.func200, Tryz.ntmps200
  go_upto_region 1 with ((with_reducible refine at_list ?_); refine wpList_boxA rfl _ rfl C rfl ?_)
  generalize w.alloc (.cells C 217) = W1 at *
  go_upto_region 3 with fail
  clear c1
  go_loopw [4, 10] (fun s i wr => ∃ k A : Nat, k ≤ m.outs.length ∧ i = .int .i64 (k : Int) ∧ s = .int .u64 (A : Int) ∧ Hid ((A ≤ 1000000 ∧ paidR A (m.outs.drop k) = paidR 0 m.outs) ∧ Below W1.heap.size W1 wr)) (fun _ i _ => (m.outs.length - intOf i).toNat)
  case atStart => exact ⟨0, 0, Nat.zero_le _, rfl, rfl, ⟨by omega, rfl⟩, Below.refl _ _⟩
  case round =>
    obtain ⟨k, A, hk, rfl, rfl, J⟩ := hrel
    by_cases hlt : k < m.outs.length
    · have h1 : (k : Int) < (m.outs.length : Int) := by omega
      have h2 : (0 : Int) ≤ (k : Int) := by omega
      have h5 := HF.out.o
      have e1 : IntKind.i64.wrap ((k : Int) + 1) = k + 1 := wrapI _ (by omega) (by omega)
      have KK := hide (And.intro (show k + 1 ≤ m.outs.length by omega) (show ((m.outs.length : Int) - ((k : Int) + 1)).toNat < ((m.outs.length : Int) - (k : Int)).toNat by omega))
      obtain ⟨ga, oa, rfl⟩ := HL.out.o.base (by omega)
      have RG : Hid (wr.rangeAt ga (oa + k * 2) m.outs[k].cells) := (HL.out.below J.out.2).o.range k hlt
      have PN := hide (fun h => (paidR_no m.outs k A hlt h).symm.trans J.out.1.2)
      have PY := hide (fun h => (paidR_yes m.outs k A hlt h).symm.trans J.out.1.2)
      have JB := hide J.out.2
      have hA := J.out.1.1
      generalize m.outs[k] = x at *
      clear hk hlt h5 J
      go_upto_region 5 with ((with_reducible refine at_list ?_); first | refine wpLoadOr _ rfl ga (oa + k * 2) rfl x RG.out (by rfl) ?_ | refine wpList_allocA zOr' rfl rfl ?_ | refine wpList_store_newA zOr' rfl _ _ rfl _ rfl x.cells.toArray rfl x.all rfl rfl ?_)
      have c5 : (wr.alloc (.cells x.cells.toArray 133)).cell? ⟨wr.heap.size, 0, none⟩ = some (.int .u64 (x.val.toNat : Int)) := by rw [cell_of_row _ _ _ _ _ _ (heap_alloc_last wr _)]; rfl
      have J2 : Hid (Below W1.heap.size W1 (wr.alloc (.cells x.cells.toArray 133))) := JB.out.alloc JB.out.size _
      generalize wr.alloc (.cells x.cells.toArray 133) = wr2 at *
      clear JB RG
      have hv := x.val.toNat_lt
      generalize x.val.toNat = V at *
      by_cases hq0 : 1000000 < V
      · have hq2 : decide ((V : Int) > 1000000) = true := decide_eq_true (by omega)
        have PN2 := hide (PN.out (by omega))
        clear hq0 PN PY hA hv
        go_wp2
        go_ret2
        exact ⟨by rw [← PN2.out]; rfl, B1.out.trans (J2.out.mono B1.out.size)⟩
      · have hq1 : decide ((V : Int) > 1000000) = false := decide_eq_false (by omega)
        have e3 : IntKind.u64.wrap ((A : Int) + (V : Int)) = ((A + V : Nat) : Int) := by rw [wrapu _ (by omega) (by omega)]; omega
        by_cases hq : 1000000 < V + A
        · have hq2 : decide (((A + V : Nat) : Int) > 1000000) = true := decide_eq_true (by omega)
          have PN2 := hide (PN.out hq)
          clear hq hq0 PN PY hA hv
          generalize A + V = S at *
          go_wp2
          go_ret2
          exact ⟨by rw [← PN2.out]; rfl, B1.out.trans (J2.out.mono B1.out.size)⟩
        · have hq2 : decide (((A + V : Nat) : Int) > 1000000) = false := decide_eq_false (by omega)
          have PY2 := hide (PY.out hq)
          have hA2 := hide (show A + V ≤ 1000000 by omega)
          clear hq hq0 PN PY hA hv
          generalize A + V = S at *
          go_wp2
          exact ⟨⟨k + 1, S, KK.out.1, by go_num, rfl, ⟨hA2.out, PY2.out⟩, J2.out⟩, by simpa [intOf] using KK.out.2⟩
    · have h1 : ¬ (k : Int) < (m.outs.length : Int) := by omega
      have PE := J.out.1.2
      rw [List.drop_of_length_le (by omega), paidR] at PE
      have PE2 := hide PE
      have JB := hide J.out.2
      clear J PE hk hlt
      go_wp2
      go_ret2
      exact ⟨by rw [← PE2.out]; rfl, B1.out.trans (JB.out.mono B1.out.size)⟩
end
end Go.Proofs.YtofddbjnncgmlaaGreatDoor
