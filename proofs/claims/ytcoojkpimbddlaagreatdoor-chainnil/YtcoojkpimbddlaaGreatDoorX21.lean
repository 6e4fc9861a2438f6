/- The contract of above. The contract of the document's Next. The contracts of the statements' given, same and few. The contracts of the library's Len64 and Len, of Depth and the document's Depth. Levels, the contracts of Root and of the statements' awake. Lists of transactions; the contract of block.Root. -/
import Derived.Test.YtcoojkpimbddlaaGreatDoorX20
import Derived.Test.YtcoojkpimbddlaaGreatDoorX08
import Derived.Test.YtcoojkpimbddlaaGreatDoorX16
namespace Go.Proofs.YtcoojkpimbddlaaGreatDoor
open Go.RowKit
open Go.Deep
def ldh (x : Value) : Sem Value := Instr.loadAt 46 x
theorem ldh_eq (x : Value) : Instr.loadAt 46 x = ldh x := rfl
def bsh (x : Value) : Sem Value := Instr.buildSlice 40 1 #[(0, x)]
theorem bsh_eq (x : Value) : Instr.buildSlice 40 1 #[(0, x)] = bsh x := rfl
theorem Onto.of_below {W W' : World} (h : Below W.heap.size W W') (v : Value) : Onto W W' v v := ⟨⟨h.os, h.tape, h.output, h.size, fun k hk _ => h.block k hk⟩, .inl rfl⟩
theorem OH.drew {e : TypeId} {w : World} {v : Value} {L : List (List UInt8)} (h : OH e w v L) : OH e w.drew v L := h.of_block fun _ _ => rfl
structure Oj (e : TypeId) (w W : World) (v : Value) (L : List (List UInt8)) : Prop where
  own : OH e W v L
  bel : Below w.heap.size w W
  far : ∀ g, v.ownBlock = some g → w.heap.size ≤ g
section
variable {e : TypeId} {w W W' : World} {v v' : Value} {L L' : List (List UInt8)}
theorem Oj.next (j : Oj e w W v L) (h : Below W.heap.size W W') : Oj e w W' v L := ⟨j.own.below h, below_next j.bel h, j.far⟩
theorem Oj.drew (j : Oj e w W v L) : Oj e w W.drew v L := j.next (Below.refl _ _).drew
theorem Oj.onto (j : Oj e w W v L) (h : Onto W W' v v') (o : OH e W' v' L') : Oj e w W' v' L' := ⟨o, j.bel.trans (h.below j.bel.size j.far), h.far j.bel.size j.far⟩
theorem Oj.cls (j : Oj e w W v L) : ∃ (I : Type) (_ : Nonempty I) (F : I → World) (i0 : I), W.drew = F i0 ∧ Hid (∀ i, Oj e w (F i) v L) ∧ Hid (∀ i W', Below (F i).heap.size (F i) W' → ∃ j, W' = F j) :=
  ⟨{W : World // Oj e w W v L}, ⟨⟨_, j⟩⟩, Subtype.val, ⟨W.drew, j.drew⟩, rfl, fun i => i.2, fun i W' b => ⟨⟨W', i.2.next b⟩, rfl⟩⟩
end
attribute [-go_sem] Instr.buildSlice
attribute [local go_sem ↓] ldh_eq
attribute [local go_sem] bsh_eq
section
set_option maxRecDepth 10000
set_option maxHeartbeats 4000000
theorem above_any (v : Value) (L : List (List UInt8)) (w : World) (hL : LH w v L) (hn : L.length < 4398046511104) (hK : Kg w) : Calls Tryz.prog 207 #[v] w fun e w' => ∃ v', e = .returned v' ∧ Oj 46 w w' v' (nxt L) := by
  obtain ⟨ao, cap, rfl⟩ := hL.form
  obtain ⟨i0, z, hi, hz, hzs, hs, hby⟩ := EH.parts
  have HL := hide hL
  have KW : Hid (∀ W, Below w.heap.size w W → Kg W) := fun W h => hK.next h
  have HW := hide fun W => width_any L.length 1 (by omega) (by omega) W
  have HN := hide hn
  have H3 := hide hL.1
  have hw1 : wdt L.length 1 = (L.length + 1) / 2 := rfl
  rw [hw1] at HW
  clear hL hK hw1
  go_enter Tryz.func207, Tryz.ntmps207
  go_wp2_with (first | (go_at_call 268; refine (HW.out _).mono ?_; rintro e w1 ⟨rfl, hww⟩; subst w1) | (at_make; refine wpList_make_own _ rfl _ _ 40 rfl 0 46 i0 z 32 Tryz.underlying40 hi hz hs _ _ _ ((L.length + 1) / 2) rfl rfl (by omega) (by rw [hby]; omega) (by unfold maxLen; omega) (Nat.zero_le _) ?_; intro w2 hown1 hgrow1))
  have J0 : Hid (Oj 46 w w2 (.slice (some ⟨w.heap.size, 0, none⟩) 0 ((L.length + 1) / 2)) (nxK L 0)) := ⟨⟨H32.nil, hown1⟩, (Below.refl _ _).grown hgrow1 (Nat.le_refl _) (by intro k hk; cases hk), fun g hg => by cases hg; exact Nat.le_refl _⟩
  clear hown1 hgrow1 hi hz hzs hs hby HW
  go_loopw [3, 4] (fun v d wr => ∃ k : Nat, k ≤ (L.length + 1) / 2 ∧ d = .int .i64 ((2 * k : Nat) : Int) ∧ Hid (Oj 46 w wr v (nxK L k))) (fun _ d _ => (L.length + 2 - intOf d).toNat)
  case atStart => exact ⟨0, Nat.zero_le _, rfl, J0⟩
  case round =>
    clear J0
    obtain ⟨k, hk, rfl, J⟩ := hrel
    have hn := HN.out
    by_cases hlt : 2 * k < L.length
    · obtain ⟨g, off, rfl⟩ := HL.out.base (by omega)
      have h1 : ((2 * k : Nat) : Int) < (L.length : Int) := by omega
      have hm := mt_lt L.length (2 * k) hlt
      have l1 := hide (H3.out.at (2 * k) (by omega))
      have l2 := hide (H3.out.at _ hm)
      have HM := hide fun W => mate_any (2 * k) L.length (by omega) W
      have LD : Hid (∀ W, Below w.heap.size w W → Below w.heap.size w W ∧ (ldh (.pointer (some ⟨g, off + (2 * k) * 32, none⟩))).run Tryz.prog W = .ok (.agg (hc (ia L (2 * k)))) W ∧ (ldh (.pointer (some ⟨g, off + (mtM L.length (2 * k)) * 32, none⟩))).run Tryz.prog W = .ok (.agg (hc (ia L (mtM L.length (2 * k))))) W) := fun W h => ⟨h, EH.load l1.out ((HL.out.below h).range _ hlt), EH.load l2.out ((HL.out.below h).range _ hm)⟩
      have HP := hide fun W hW => pair_any _ _ l1.out l2.out W hW
      have hpl := pr_len (ia L (2 * k)) (ia L (mtM L.length (2 * k)))
      have SN := hide (nxK_snoc L k)
      rw [show nx L k = pr (ia L (2 * k)) (ia L (mtM L.length (2 * k))) from rfl] at SN
      have e2 : IntKind.i64.wrap (((2 * k : Nat) : Int) + 2) = ((2 * (k + 1) : Nat) : Int) := by rw [wrapI _ (by omega) (by omega)]; omega
      have h2 : (0 : Int) ≤ ((2 * k : Nat) : Int) := by omega
      have h3 : ((mtM L.length (2 * k) : Nat) : Int) < (L.length : Int) := by omega
      have h4 : (0 : Int) ≤ ((mtM L.length (2 * k) : Nat) : Int) := by omega
      have KK := hide (And.intro (show k + 1 ≤ (L.length + 1) / 2 by omega) (show ((L.length : Int) + 2 - ((2 * (k + 1) : Nat) : Int)).toNat < ((L.length : Int) + 2 - ((2 * k : Nat) : Int)).toNat by omega))
      have SZ := hide (show (nxK L k).length + 1 ≤ 4398046511104 by rw [nxK_len]; omega)
      generalize hia : ia L (2 * k) = A at *
      generalize hib : ia L (mtM L.length (2 * k)) = B at *
      generalize hpr : pr A B = P at *
      have PL := hide hpl
      have bs : ∀ W, (bsh (.agg (hc P))).run Tryz.prog W = .ok (.slice (some ⟨W.heap.size, 0, none⟩) 1 1) (W.alloc (.cells (hc P) 46)) := fun W => EH.bs1 W P hpl
      clear hia hib hpr hpl hk hn
      generalize hp : 2 * (k + 1) = p3 at *
      have HP3 := hide hp
      clear hp hm hlt
      generalize mtM L.length (2 * k) = q at *
      generalize 2 * k = p1 at *
      go_upto_region 5 with fail
      have ld1 := (LD.out _ J.out.bel.drew).2.1
      have ld2 := (LD.out _ J.out.bel.drew).2.2
      go_region_law ((first | (go_simp; go_at_call 270; refine (HM.out _).mono ?_; rintro e w1 ⟨rfl, hww⟩; subst w1) | (go_simp; go_at_call 269; refine (HP.out _ (KW.out _ J.out.bel.drew)).mono ?_; rintro e w1 ⟨rfl, be⟩; have J1 := hide ((J.out.next (Below.refl _ _).drew).next be); have J2 := hide (J1.out.next ((Below.refl _ _).alloc (Nat.le_refl _) (.cells (hc P) 46))); clear be) | (refine ET.step EH (by rfl) _ _ (by rfl) _ _ (by rfl) J2.out.own ⟨_, 0, none⟩ P PL.out (by rfl) (one_newH _ _) SZ.out ?_; intro v' w3 hown' hon3; have J3 := hide (J2.out.onto hon3 hown'))))
      all_goals
        go_wp2
        exact ⟨⟨k + 1, KK.out.1, by rw [HP3.out], by rw [SN.out]; exact J3⟩, by simpa [intOf] using KK.out.2⟩
    · have h1 : ¬ ((2 * k : Nat) : Int) < (L.length : Int) := by omega
      have hke : nxt L = nxK L k := by
        unfold nxt
        rw [show (L.length + 1) / 2 = k by omega]
      have HE := hide hke
      clear hke hlt hk hn
      generalize 2 * k = p1 at *
      go_wp2
      go_ret
      exact ⟨u3, rfl, by rw [HE.out]; exact J.out⟩
end
def ldg (x : Value) : Sem Value := Instr.loadAt 45 x
theorem ldg_eq (x : Value) : Instr.loadAt 45 x = ldg x := rfl
def bsg (x : Value) : Sem Value := Instr.buildSlice 263 1 #[(0, x)]
theorem bsg_eq (x : Value) : Instr.buildSlice 263 1 #[(0, x)] = bsg x := rfl
attribute [-go_sem] Instr.buildSlice
attribute [local go_sem ↓] ldg_eq
attribute [local go_sem] bsg_eq
section
set_option maxRecDepth 10000
set_option maxHeartbeats 4000000
end
theorem LH.H {w : World} {v : Value} {L : List (List UInt8)} (h : LH w v L) : H32 L := h.1
theorem H32.take {L : List (List UInt8)} (h : H32 L) (k : Nat) : H32 (L.take k) := fun x hx => h x (List.mem_of_mem_take hx)
theorem ia_take (L : List (List UInt8)) (n i : Nat) (h : i < n) : ia (L.take n) i = ia L i := by
  unfold ia
  rw [List.getD_eq_getElem?_getD, List.getD_eq_getElem?_getD, List.getElem?_take, if_pos h]
theorem LH.take {w : World} {ao : Option Addr} {n cap m : Nat} {L : List (List UInt8)} (h : LH w (.slice ao n cap) L) (hm : m ≤ L.length) : LH w (.slice ao m cap) (L.take m) := by
  obtain ⟨h1, ao', cap', e, h2, h3⟩ := h
  injection e with e1 e2 e3
  subst e1 e3
  have hl : (L.take m).length = m := by simp; omega
  refine ⟨h1.take m, ao, cap, by rw [hl], by omega, fun i hi => ?_⟩
  rw [hl] at hi
  rw [ia_take L m i hi]
  exact h3 i (by omega)
section
set_option maxRecDepth 10000
set_option maxHeartbeats 2000000
end
section
set_option maxRecDepth 10000
set_option maxHeartbeats 1000000
def dp (n : Nat) : Nat := if n < 2 then 0 else bl (n - 1)
theorem dp_step (n : Nat) (h : 2 ≤ n) : dp n = dp ((n + 1) / 2) + 1 := by
  unfold dp
  rw [if_neg (by omega)]
  by_cases h2 : n = 2
  · subst h2
    decide
  · rw [if_neg (by omega), show (n + 1) / 2 - 1 = (n - 1) / 2 by omega]
    have := bl_shift (n - 1) 1 (by omega)
    rw [this, Nat.pow_one]
    omega
theorem dp_low (n : Nat) (h : n < 2) : dp n = 0 := by unfold dp; rw [if_pos h]
end
def lv (L : List (List UInt8)) : Nat → List (List UInt8)
  | 0 => L
  | k + 1 => nxt (lv L k)
theorem lv_32 {L : List (List UInt8)} (h : H32 L) : ∀ k, H32 (lv L k)
  | 0 => h
  | _ + 1 => nxt_32 _
theorem lv_le (L : List (List UInt8)) : ∀ k, (lv L k).length ≤ L.length
  | 0 => Nat.le_refl _
  | k + 1 => by
    rw [lv, nxt_len]
    have := lv_le L k
    omega
def muK (L : List (List UInt8)) : Nat → Bool
  | 0 => false
  | k + 1 => muK L k || twb (lv L k)
def rtL (L : List (List UInt8)) : List UInt8 := if L = [] then zeros else ia (lv L (dp L.length)) 0
def muL (L : List (List UInt8)) : Bool := muK L (dp L.length)
theorem lv_pos (L : List (List UInt8)) (h : 0 < L.length) : ∀ k, 0 < (lv L k).length
  | 0 => h
  | k + 1 => by
    rw [lv, nxt_len]
    have := lv_pos L h k
    omega
theorem rtL_len {L : List (List UInt8)} (h : H32 L) : (rtL L).length = 32 := by
  unfold rtL
  split
  · exact zeros_len
  · rename_i h0
    exact (lv_32 h _).at 0 (lv_pos L (by rcases L with _ | ⟨a, r⟩; exact absurd rfl h0; simp) _)
theorem resAB {t : TypeId} {n : Nat} {z : Array Value} (A : Arr t n z) {fn : Func} {p u : Tmp} (hf : fn.results = #[.cell p t, .tmp u]) (tmps : Array Value) (w : World) (g : Nat) (t' : TypeId) (c : Array Value) (hn : c.size = n)
    (hp : tmps.getD p undef = .pointer (some ⟨g, 0, none⟩)) (hg : w.heap[g]? = some (.cells c t' (0, 0))) (x : Value) (hx : tmps.getD u undef = x) : (results fn tmps).run Tryz.prog w = .ok (.tuple #[.agg c, x]) w := by
  subst hx
  have hp' : tmps[p]?.getD undef = .pointer (some ⟨g, 0, none⟩) := by simpa using hp
  rcases A.und with ⟨m, e, hd⟩ | ⟨fs, hd⟩ <;> simp [results, hf, hp', asAddr, run_loadVar_row w g t' t c (0, 0) _ hg hd rfl (by rw [A.info, hn])]
def lenV2 : Value → Nat
  | .slice _ n _ => n
  | _ => 0
structure Rj (w W : World) (v : Value) (L : List (List UInt8)) : Prop where
  lh : LH W v L
  r : W.heap[w.heap.size]? = some (.cells (hc zeros) 46 (0, 0))
  bel : Below w.heap.size w W
theorem Rj.next {w W W' : World} {v : Value} {L : List (List UInt8)} (j : Rj w W v L) (h : Below W.heap.size W W') : Rj w W' v L := ⟨j.lh.below h, (h.block _ (lt_heap j.r)).trans j.r, below_next j.bel h⟩
theorem Rj.level {w W W' : World} {v v' : Value} {L L' : List (List UInt8)} (j : Rj w W v L) (o : Oj 46 W W' v' L') : Rj w W' v' L' := ⟨o.own.read, (o.bel.block _ (lt_heap j.r)).trans j.r, below_next j.bel o.bel⟩
section
set_option maxRecDepth 10000
set_option maxHeartbeats 2000000
theorem root_none (v : Value) (w : World) (hL : LH w v []) : Calls Tryz.prog 145 #[v] w fun e w' => e = .returned (.tuple #[.agg (hc zeros), .bool false]) ∧ Below w.heap.size w w' := by
  obtain ⟨ao, cap, rfl⟩ := hL.form
  have R0 := hide (heap_alloc_last w (.cells (hc zeros) 46))
  have B0 := hide ((Below.refl w.heap.size w).alloc (Nat.le_refl _) (.cells (hc zeros) 46))
  rw [List.length_nil]
  clear hL
  go_enter Tryz.func145, Tryz.ntmps145
  go_upto_region 1 with (refine wpList_allocA A25 rfl rfl ?_)
  generalize w.alloc (.cells (hc zeros) 46) = W0 at *
  go_wp2_with (first | refine wpList_buildA A25 rfl rfl ?_ | refine wpList_storeA A25 rfl _ _ rfl _ (hc zeros) (by rw [hc_size, zeros_len]) (hc_one _) rfl rfl (hc zeros) (by rw [hc_size, zeros_len]) 46 R0.out ?_)
  exact bodyPost_ret (v := .tuple #[.agg (hc zeros), .bool false]) (resAB A25 Tryz.results145 _ _ w.heap.size 46 (hc zeros) (by rw [hc_size, zeros_len]) rfl (setRow_heap _ _ _ _ _ _ R0.out) _ (by rfl)) rfl ⟨rfl, below_setRow B0.out (Nat.le_refl _) _⟩
theorem root_some (v : Value) (L : List (List UInt8)) (w : World) (hL : LH w v L) (h0 : 0 < L.length) (hn : L.length < 4398046511104) (hK : Kg w) : Calls Tryz.prog 145 #[v] w fun e w' => e = .returned (.tuple #[.agg (hc (rtL L)), .bool (muL L)]) ∧ Below w.heap.size w w' := by
  obtain ⟨ao, cap, rfl⟩ := hL.form
  have J0 : Hid (Rj w (w.alloc (.cells (hc zeros) 46)) (.slice ao L.length cap) (lv L 0)) := ⟨hL.below ((Below.refl _ _).alloc (Nat.le_refl _) _), heap_alloc_last w _, (Below.refl _ _).alloc (Nat.le_refl _) _⟩
  have KW : Hid (∀ W, Below w.heap.size w W → Kg W) := fun W h => hK.next h
  have HN := hide (And.intro h0 hn)
  have H3 := hide hL.1
  have RL := hide (rtL_len hL.1)
  have hne : ((L.length : Int) == 0) = false := by rw [beq_eq_false_iff_ne]; omega
  clear hL hK h0 hn
  go_enter Tryz.func145, Tryz.ntmps145
  go_upto_region 1 with (refine wpList_allocA A25 rfl rfl ?_)
  generalize w.alloc (.cells (hc zeros) 46) = W0 at *
  go_wp2
  go_loopw [4, 5] (fun v m wr => ∃ k : Nat, m = .bool (muK L k) ∧ Hid (Rj w wr v (lv L k)) ∧ Hid (dp (lv L k).length + k = dp L.length)) (fun v _ _ => lenV2 v)
  case atStart => exact ⟨0, rfl, J0, rfl⟩
  case round =>
    clear J0
    obtain ⟨k, rfl, J, HD⟩ := hrel
    obtain ⟨ao4, cap4, rfl⟩ := J.out.lh.form
    have hle := lv_le L k
    have hpos := lv_pos L HN.out.1 k
    have hn := HN.out.2
    by_cases hlt : 1 < (lv L k).length
    · have h1 : (1 : Int) < ((lv L k).length : Int) := by omega
      have HD2 : Hid (dp (lv L (k + 1)).length + (k + 1) = dp L.length) := by
        show _ = _
        rw [← HD.out, dp_step _ hlt, lv, nxt_len]
        omega
      have HS := hide (show muK L (k + 1) = (muK L k || twb (lv L k)) from rfl)
      have HTw := hide fun W hW => twins_any (.slice ao4 (lv L k).length cap4) (lv L k) W hW (by omega)
      have HAb := hide fun W hW hK => above_any (.slice ao4 (lv L k).length cap4) (lv L k) W hW (by omega) hK
      rw [show nxt (lv L k) = lv L (k + 1) from rfl] at HAb
      have ME := hide (show (lv L (k + 1)).length < (lv L k).length by rw [lv, nxt_len]; omega)
      generalize muK L k = mu at *
      generalize twb (lv L k) = tb at *
      clear hlt hle hpos hn hne
      cases mu
      case' false =>
        go_upto_region 6 with (first | (go_at_call 206; refine (HTw.out _ J.out.lh).mono ?_; rintro e w1 ⟨rfl, be⟩; have J1 := hide (J.out.next be); clear be))
        rw [Bool.false_or] at HS
        clear J
        generalize w1 = W1 at *
      case' true =>
        go_upto_region 6 with fail
        rw [Bool.true_or] at HS
        have J1 := J
        clear J
        generalize wr = W1 at *
      all_goals
        go_wp2_with (first | (go_at_call 207; refine (HAb.out _ J1.out.lh (KW.out _ J1.out.bel)).mono ?_; rintro e w2 ⟨v2, rfl, o2⟩; have J2 := hide (J1.out.level o2); clear o2))
        obtain ⟨ao2, cap2, rfl⟩ := J2.out.lh.form
        exact ⟨⟨k + 1, by rw [HS.out], J2, HD2⟩, by simpa [lenV2] using ME.out⟩
    · have h1 : ¬ (1 : Int) < ((lv L k).length : Int) := by omega
      have hl1 : (lv L k).length = 1 := by omega
      have hk : k = dp L.length := by
        have := HD.out
        rw [hl1, dp_low 1 (by omega)] at this
        omega
      have hrt : rtL L = ia (lv L k) 0 := by
        unfold rtL
        rw [if_neg (fun h => by rw [h] at hpos; have := HN.out.1; rw [h] at this; simp at this), hk]
      have hmu : muL L = muK L k := by unfold muL; rw [hk]
      obtain ⟨g, off, rfl⟩ := J.out.lh.base hpos
      have R1 := hide (J.out.lh.range 0 hpos)
      rw [← hrt] at R1
      have h2 : (0 : Int) < ((lv L k).length : Int) := by omega
      rw [← hmu]
      generalize hrr : rtL L = rr at *
      generalize hmm : muL L = mm at *
      have HE := hide (And.intro hrr hmm)
      clear hk hrt hmu hlt hle hn hl1 hne hrr hmm
      go_wp2_with (first | refine ET.wpLoad EH rfl _ rfl g _ rfl rr RL.out R1.out ?_ | refine wpList_storeA A25 rfl _ _ rfl _ (hc rr) (by rw [hc_size, RL.out]) (hc_one _) rfl rfl (hc zeros) (by rw [hc_size, zeros_len]) 46 J.out.r ?_)
      exact bodyPost_ret (v := .tuple #[.agg (hc rr), .bool mm]) (resAB A25 Tryz.results145 _ _ w.heap.size 46 (hc rr) (by rw [hc_size, RL.out]) rfl (setRow_heap _ _ _ _ _ _ J.out.r) _ (by rfl)) rfl ⟨by rw [HE.out.1, HE.out.2], below_setRow J.out.bel (Nat.le_refl _) _⟩
end
end Go.Proofs.YtcoojkpimbddlaaGreatDoor
namespace Go.Proofs.YtcoojkpimbddlaaGreatDoor
open Go.RowKit
open Go.Deep
set_option linter.unusedVariables false
structure Tq where
  m : Tm
  ai : Option Addr
  ci : Nat
  ao : Option Addr
  co : Nat
def Tq.cells (x : Tq) : List Value := [.int .u32 (x.m.ver.toNat : Int), .slice x.ai x.m.ins.length x.ci, .slice x.ao x.m.outs.length x.co, .int .u32 (x.m.time.toNat : Int)]
def Tq.arr (x : Tq) : Array Value := x.m.cells x.ai x.ci x.ao x.co
theorem Tq.one (x : Tq) : ∀ v ∈ x.cells, v.oneCell' = true := by
  intro v hv
  simp only [Tq.cells, List.mem_cons, List.not_mem_nil, or_false] at hv
  rcases hv with rfl | rfl | rfl | rfl <;> rfl
def KT : Ek Tq := ⟨60, 152, 4, 64, Tq.cells, by decide, by decide, Tryz.underlying60, by kernel_rfl, fun _ => rfl, Tq.one⟩
def Tq.can (w : World) (x : Tq) : Prop := LT w x.m x.ai x.ci x.ao x.co ∧ x.m.fit
theorem Tq.can.below {w W : World} {x : Tq} (h : x.can w) (b : Below w.heap.size w W) : x.can W := ⟨h.1.below b, h.2⟩
structure LQ (w : World) (v : Value) (L : List Tq) : Prop where
  l : LX KT w v L
  t : ∀ x ∈ L, x.can w
theorem LQ.below {w W : World} {v : Value} {L : List Tq} (h : LQ w v L) (b : Below w.heap.size w W) : LQ W v L := ⟨h.l.below b, fun x hx => (h.t x hx).below b⟩
theorem LQ.at {w : World} {v : Value} {L : List Tq} (h : LQ w v L) (k : Nat) (hk : k < L.length) : L[k].can w := h.t _ (List.getElem_mem hk)
def idsL (L : List Tq) : List (List UInt8) := L.map (fun x => x.m.idT)
theorem idsL_len (L : List Tq) : (idsL L).length = L.length := by simp [idsL]
theorem idsL_32 (L : List Tq) : H32 (idsL L) := by
  intro l hl
  simp only [idsL, List.mem_map] at hl
  obtain ⟨x, _, rfl⟩ := hl
  exact x.m.idT_len
theorem idsL_next (L : List Tq) (k : Nat) (hk : k < L.length) : (idsL L).take k ++ [L[k].m.idT] = (idsL L).take (k + 1) := by
  rw [← List.take_append_getElem (show k < (idsL L).length by rw [idsL_len]; exact hk)]
  simp [idsL]
theorem wpLoadT {w : World} {ops : Array Oper} {rest : List Oper} {o : Oper} {a : Act} {Q : Exit → Act → World → Prop} (x : Operand) (ho : o.op = .load 152 x) (g off : Nat) (hx : a.eval x = .pointer (some ⟨g, off, none⟩)) (y : Tq) (hr : w.rangeAt g off y.cells) (hw : Region.wanted o (yielded ops a.tmps) = true)
    (h : wpList Tryz.prog ops Q rest (a.put o.dst (.agg y.arr)) w) : wpList Tryz.prog ops Q (o :: rest) a w := wpLoadX KT Tryz.underlying152 rfl x ho g off hx y hr hw h
section
set_option maxRecDepth 10000
set_option maxHeartbeats 4000000
theorem broot_any (v : Value) (L : List Tq) (w : World) (hL : LQ w v L) (hn : L.length < 4398046511104) (hK : Kg w) : Calls Tryz.prog 75 #[v] w fun e w' => e = .returned (.tuple #[.agg (hc (rtL (idsL L))), .bool (muL (idsL L))]) ∧ Below w.heap.size w w' := by
  obtain ⟨ao, cap, rfl⟩ := hL.l.form
  obtain ⟨i0, z, hi, hz, hzs, hs, hby⟩ := EH.parts
  have b1 := (Below.refl w.heap.size w).alloc (Nat.le_refl _) (.cells (hc zeros) 46)
  have R1 := hide (heap_alloc_last w (.cells (hc zeros) 46))
  have B1 := hide b1
  have HL := hide (hL.below b1)
  have KS := hide (hK.next b1)
  have HN := hide hn
  have IDL := hide (idsL_len L)
  have HR : Hid (∀ v W, LH W v (idsL L) → Kg W → Calls Tryz.prog 145 #[v] W fun e w' => e = .returned (.tuple #[.agg (hc (rtL (idsL L))), .bool (muL (idsL L))]) ∧ Below W.heap.size W w') := fun v W l k => by
    by_cases h0 : L = []
    · subst h0
      exact root_none v W l
    · exact root_some v (idsL L) W l (by rw [idsL_len]; exact List.length_pos_iff.2 h0) (by rw [idsL_len]; exact hn) k
  have RL := hide (rtL_len (idsL_32 L))
  have HID : Hid (∀ (x : Tq) W, x.can W → Kg W → Calls Tryz.prog 88 #[.agg x.arr] W fun e w' => e = .returned (.tuple #[.agg (hc x.m.idT), .int .i64 x.m.toldE]) ∧ Below W.heap.size W w') := fun x W c k => id_any x.m x.ai x.ci x.ao x.co W k c.1 c.2
  clear hL hK b1
  go_enter Tryz.func75, Tryz.ntmps75
  go_upto_region 1 with ((with_reducible refine at_list ?_); refine wpList_allocA A25 rfl rfl ?_)
  generalize w.alloc (.cells (hc zeros) 46) = W0 at *
  go_upto_region 2 with (at_make; refine wpList_make_own _ rfl _ _ 40 rfl 0 46 i0 z 32 Tryz.underlying40 hi hz hs _ _ _ L.length rfl rfl (by omega) (by rw [hby]; omega) (by unfold maxLen; omega) (Nat.zero_le _) ?_; intro w2 hown1 hgrow1)
  have J0 : Hid (Oj 46 W0 w2 (.slice (some ⟨W0.heap.size, 0, none⟩) 0 L.length) ((idsL L).take 0)) := ⟨⟨H32.nil, hown1⟩, (Below.refl _ _).grown hgrow1 (Nat.le_refl _) (by intro k hk; cases hk), fun g hg => by cases hg; exact Nat.le_refl _⟩
  clear hown1 hgrow1 hi hz hzs hs hby hn
  go_upto_region 3 with fail
  go_loopw [4, 14] (fun v d wr => ∃ k : Nat, k ≤ L.length ∧ d = .int .i64 (k : Int) ∧ Hid (Oj 46 W0 wr v ((idsL L).take k))) (fun _ d _ => (L.length - intOf d).toNat)
  case atStart => exact ⟨0, Nat.zero_le _, rfl, J0⟩
  case round =>
    clear J0
    obtain ⟨k, hk, rfl, J⟩ := hrel
    by_cases hlt : k < L.length
    · have h1 : (k : Int) < (L.length : Int) := by omega
      have h2 : (0 : Int) ≤ (k : Int) := by omega
      have hn := HN.out
      have e1 : IntKind.i64.wrap ((k : Int) + 1) = k + 1 := wrapI _ (by omega) (by omega)
      have KK := hide (And.intro (show k + 1 ≤ L.length by omega) (show ((L.length : Int) - ((k : Int) + 1)).toNat < ((L.length : Int) - (k : Int)).toNat by omega))
      obtain ⟨ga, oa, rfl⟩ := HL.out.l.base (by omega)
      have RG : Hid (wr.rangeAt ga (oa + k * 4) L[k].cells) := (HL.out.below J.out.bel).l.range k hlt
      have CN := hide (fun W (b : Below W0.heap.size W0 W) => (HL.out.at k hlt).below b)
      have SN := hide (idsL_next L k hlt)
      have SZ := hide (show ((idsL L).take k).length + 1 ≤ 4398046511104 by rw [List.length_take, IDL.out]; omega)
      generalize L[k] = x at *
      clear hk hlt hn
      go_upto_region 5 with ((with_reducible refine at_list ?_); first | refine wpLoadT _ rfl ga (oa + k * 4) rfl x RG.out (by rfl) ?_ | refine wpList_allocA AT rfl rfl ?_ | refine wpList_store_newA AT rfl _ _ rfl _ rfl x.arr rfl (x.m.one _ _ _ _) rfl rfl ?_)
      have J1 := hide (J.out.next ((Below.refl wr.heap.size wr).alloc (Nat.le_refl _) (.cells x.arr 152)))
      have RX := hide (heap_alloc_last wr (.cells x.arr 152))
      have IL := hide x.m.idT_len
      have HIx := hide (fun W c k => HID.out x W c k)
      have XZ : Hid (x.arr.size = 4) := rfl
      clear J RG
      generalize wr.alloc (.cells x.arr 152) = W1 at *
      generalize wr.heap.size = g6 at *
      generalize x.arr = C at *
      generalize x.m.idT = D at *
      generalize x.m.toldE = E at *
      go_upto_region 6 with (first | (go_at_call 88; refine (HIx.out _ (CN.out _ J1.out.bel) (KS.out.next J1.out.bel)).mono ?_; rintro r W2 ⟨rfl, be⟩; have J2 := hide (J1.out.next be); clear be) | ((with_reducible refine at_list ?_); first | refine wpList_loadS AT _ rfl g6 rfl C XZ.out 152 RX.out (by rfl) ?_ | refine wpList_allocA A25 rfl rfl ?_ | refine wpList_store_newA A25 rfl _ _ rfl _ rfl (hc D) (by rw [hc_size, IL.out]) (hc_one _) rfl rfl ?_))
      have J3 := hide (J2.out.next ((Below.refl W2.heap.size W2).alloc (Nat.le_refl _) (.cells (hc D) 46)))
      have RD := hide (heap_alloc_last W2 (.cells (hc D) 46))
      have DZ : Hid ((hc D).size = 32) := by show _ = _; rw [hc_size, IL.out]
      clear J1 J2 RX
      generalize W2.alloc (.cells (hc D) 46) = W3 at *
      generalize W2.heap.size = g7 at *
      have J4 := hide (J3.out.next ((Below.refl W3.heap.size W3).alloc (Nat.le_refl _) (.cells (hc D) 46)))
      go_wp2_with ((with_reducible refine at_list ?_); first | refine wpList_loadS A25 _ rfl g7 rfl (hc D) DZ.out 46 RD.out (by rfl) ?_ | refine ET.wpBs1 EH rfl _ rfl D IL.out rfl ?_ | (refine ET.wpApp EH rfl _ _ rfl _ _ rfl J4.out.own ⟨_, 0, none⟩ D IL.out rfl (one_newH _ _) SZ.out ?_; intro v' W5 hown' hon5; have J5 := hide (J4.out.onto hon5 hown'); clear hown' hon5))
      exact ⟨⟨k + 1, KK.out.1, by go_num, by rw [← SN.out]; exact J5⟩, by simpa [intOf] using KK.out.2⟩
    · have h1 : ¬ (k : Int) < (L.length : Int) := by omega
      have JR := J.out
      rw [List.take_of_length_le (by rw [IDL.out]; omega)] at JR
      have J2 := hide JR
      have R2 := hide ((JR.bel.block _ (lt_heap R1.out)).trans R1.out)
      clear hk hlt J JR
      generalize hrt : rtL (idsL L) = D at *
      generalize hmu : muL (idsL L) = V at *
      have HRT := hide hrt
      have HMU := hide hmu
      clear hrt hmu
      go_wp2_with (first | (go_at_call 145; refine (HR.out _ _ J2.out.own.read (KS.out.next J2.out.bel)).mono ?_; rintro r W2 ⟨rfl, be⟩; have D2 := hide (below_next J2.out.bel be); have R3 := hide ((be.block _ (lt_heap R2.out)).trans R2.out); clear be) | ((with_reducible refine at_list ?_); refine wpList_storeA A25 rfl _ _ rfl w.heap.size (hc D) (by rw [hc_size, RL.out]) (hc_one _) rfl rfl (hc zeros) (by rw [hc_size, zeros_len]) 46 R3.out ?_))
      exact bodyPost_ret (v := .tuple #[.agg (hc D), .bool V]) (resA2K A25 Tryz.results75 _ _ w.heap.size 46 _ (by rw [hc_size, RL.out]) rfl (setRow_heap _ _ _ _ _ _ R3.out) _ rfl) rfl ⟨by rw [HRT.out, HMU.out], below_setRow (below_next B1.out D2.out) (Nat.le_refl _) _⟩
end
end Go.Proofs.YtcoojkpimbddlaaGreatDoor
