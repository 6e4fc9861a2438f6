/- Levels, the contracts of Root and of the statements' awake. -/
import Derived.Test.YthlaibkdcebekaaDoorMh
namespace Go.Proofs.YthlaibkdcebekaaDoor
open Go.RowKit
open Go.Deep
/-- The level k of a list. -/
def lv (L : List (List UInt8)) : Nat → List (List UInt8)
  | 0 => L
  | k + 1 => nxt (lv L k)
theorem lv_32 {L : List (List UInt8)} (h : H32 L) : ∀ k, H32 (lv L k)
  | 0 => h
  | _ + 1 => nxt_32 _
theorem lv_le (L : List (List UInt8)) : ∀ k, (lv L k).length ≤ L.length
  | 0 => Nat.le_refl _
  | k + 1 => by
    rw [lv, nxt_len]
    have := lv_le L k
    omega
/-- Whether a level below k has two same ones. -/
def muK (L : List (List UInt8)) : Nat → Bool
  | 0 => false
  | k + 1 => muK L k || twb (lv L k)
/-- The root, and whether a list is mutated. -/
def rtL (L : List (List UInt8)) : List UInt8 := if L = [] then zeros else ia (lv L (dp L.length)) 0
def muL (L : List (List UInt8)) : Bool := muK L (dp L.length)
theorem lv_pos (L : List (List UInt8)) (h : 0 < L.length) : ∀ k, 0 < (lv L k).length
  | 0 => h
  | k + 1 => by
    rw [lv, nxt_len]
    have := lv_pos L h k
    omega
theorem rtL_len {L : List (List UInt8)} (h : H32 L) : (rtL L).length = 32 := by
  unfold rtL
  split
  · exact zeros_len
  · rename_i h0
    exact (lv_32 h _).at 0 (lv_pos L (by rcases L with _ | ⟨a, r⟩; exact absurd rfl h0; simp) _)
theorem resAB {t : TypeId} {n : Nat} {z : Array Value} (A : Arr t n z) {fn : Func} {p u : Tmp} (hf : fn.results = #[.cell p t, .tmp u]) (tmps : Array Value) (w : World) (g : Nat) (t' : TypeId) (c : Array Value) (hn : c.size = n)
    (hp : tmps.getD p undef = .pointer (some ⟨g, 0, none⟩)) (hg : w.heap[g]? = some (.cells c t' (0, 0))) (x : Value) (hx : tmps.getD u undef = x) : (results fn tmps).run Tryd.prog w = .ok (.tuple #[.agg c, x]) w := by
  subst hx
  have hp' : tmps[p]?.getD undef = .pointer (some ⟨g, 0, none⟩) := by simpa using hp
  rcases A.und with ⟨m, e, hd⟩ | ⟨fs, hd⟩ <;> simp [results, hf, hp', asAddr, run_loadVar_row w g t' t c (0, 0) _ hg hd rfl (by rw [A.info, hn])]
def lenV2 : Value → Nat
  | .slice _ n _ => n
  | _ => 0
/-- A level, and an answer's place. -/
structure Rj (w W : World) (v : Value) (L : List (List UInt8)) : Prop where
  lh : LH W v L
  r : W.heap[w.heap.size]? = some (.cells (hc zeros) 39 (0, 0))
  bel : Below w.heap.size w W
theorem Rj.next {w W W' : World} {v : Value} {L : List (List UInt8)} (j : Rj w W v L) (h : Below W.heap.size W W') : Rj w W' v L := ⟨j.lh.below h, (h.block _ (lt_heap j.r)).trans j.r, below_next j.bel h⟩
theorem Rj.level {w W W' : World} {v v' : Value} {L L' : List (List UInt8)} (j : Rj w W v L) (o : Oj 39 W W' v' L') : Rj w W' v' L' := ⟨o.own.read, (o.bel.block _ (lt_heap j.r)).trans j.r, below_next j.bel o.bel⟩
section
set_option maxRecDepth 10000
set_option maxHeartbeats 2000000
theorem root_none (v : Value) (w : World) (hL : LH w v []) : Calls Tryd.prog 14 #[v] w fun e w' => e = .returned (.tuple #[.agg (hc zeros), .bool false]) ∧ Below w.heap.size w w' := by
  obtain ⟨ao, cap, rfl⟩ := hL.form
  have R0 := hide (heap_alloc_last w (.cells (hc zeros) 39))
  have B0 := hide ((Below.refl w.heap.size w).alloc (Nat.le_refl _) (.cells (hc zeros) 39))
  rw [List.length_nil]
  clear hL
  go_enter Tryd.func14, Tryd.ntmps14
  go_upto_region 1 with (refine wpList_allocA A25 rfl rfl ?_)
  generalize w.alloc (.cells (hc zeros) 39) = W0 at *
  go_wp2_with (first | refine wpList_buildA A25 rfl rfl ?_ | refine wpList_storeA A25 rfl _ _ rfl _ (hc zeros) (by rw [hc_size, zeros_len]) (hc_one _) rfl rfl (hc zeros) (by rw [hc_size, zeros_len]) 39 R0.out ?_)
  exact bodyPost_ret (v := .tuple #[.agg (hc zeros), .bool false]) (resAB A25 Tryd.results14 _ _ w.heap.size 39 (hc zeros) (by rw [hc_size, zeros_len]) rfl (setRow_heap _ _ _ _ _ _ R0.out) _ (by rfl)) rfl ⟨rfl, below_setRow B0.out (Nat.le_refl _) _⟩
theorem root_some (v : Value) (L : List (List UInt8)) (w : World) (hL : LH w v L) (h0 : 0 < L.length) (hn : L.length < 4294967296) (hK : Kg w) : Calls Tryd.prog 14 #[v] w fun e w' => e = .returned (.tuple #[.agg (hc (rtL L)), .bool (muL L)]) ∧ Below w.heap.size w w' := by
  obtain ⟨ao, cap, rfl⟩ := hL.form
  have J0 : Hid (Rj w (w.alloc (.cells (hc zeros) 39)) (.slice ao L.length cap) (lv L 0)) := ⟨hL.below ((Below.refl _ _).alloc (Nat.le_refl _) _), heap_alloc_last w _, (Below.refl _ _).alloc (Nat.le_refl _) _⟩
  have KW : Hid (∀ W, Below w.heap.size w W → Kg W) := fun W h => hK.next h
  have HN := hide (And.intro h0 hn)
  have H3 := hide hL.1
  have RL := hide (rtL_len hL.1)
  have hne : ((L.length : Int) == 0) = false := by rw [beq_eq_false_iff_ne]; omega
  clear hL hK h0 hn
  go_enter Tryd.func14, Tryd.ntmps14
  go_upto_region 1 with (refine wpList_allocA A25 rfl rfl ?_)
  generalize w.alloc (.cells (hc zeros) 39) = W0 at *
  go_wp2
  go_loopw [4, 5] (fun v m wr => ∃ k : Nat, m = .bool (muK L k) ∧ Hid (Rj w wr v (lv L k)) ∧ Hid (dp (lv L k).length + k = dp L.length)) (fun v _ _ => lenV2 v)
  case atStart => exact ⟨0, rfl, J0, rfl⟩
  case round =>
    clear J0
    obtain ⟨k, rfl, J, HD⟩ := hrel
    obtain ⟨ao4, cap4, rfl⟩ := J.out.lh.form
    have hle := lv_le L k
    have hpos := lv_pos L HN.out.1 k
    have hn := HN.out.2
    by_cases hlt : 1 < (lv L k).length
    · have h1 : (1 : Int) < ((lv L k).length : Int) := by omega
      have HD2 : Hid (dp (lv L (k + 1)).length + (k + 1) = dp L.length) := by
        show _ = _
        rw [← HD.out, dp_step _ hlt, lv, nxt_len]
        omega
      have HS := hide (show muK L (k + 1) = (muK L k || twb (lv L k)) from rfl)
      have HTw := hide fun W hW => twins_any (.slice ao4 (lv L k).length cap4) (lv L k) W hW (by omega)
      have HAb := hide fun W hW hK => above_any (.slice ao4 (lv L k).length cap4) (lv L k) W hW (by omega) hK
      rw [show nxt (lv L k) = lv L (k + 1) from rfl] at HAb
      have ME := hide (show (lv L (k + 1)).length < (lv L k).length by rw [lv, nxt_len]; omega)
      generalize muK L k = mu at *
      generalize twb (lv L k) = tb at *
      clear hlt hle hpos hn hne
      cases mu
      case' false =>
        go_upto_region 6 with (first | (go_at_call 27; refine (HTw.out _ J.out.lh).mono ?_; rintro e w1 ⟨rfl, be⟩; have J1 := hide (J.out.next be); clear be))
        rw [Bool.false_or] at HS
        clear J
        generalize w1 = W1 at *
      case' true =>
        go_upto_region 6 with fail
        rw [Bool.true_or] at HS
        have J1 := J
        clear J
        generalize wr = W1 at *
      all_goals
        go_wp2_with (first | (go_at_call 28; refine (HAb.out _ J1.out.lh (KW.out _ J1.out.bel)).mono ?_; rintro e w2 ⟨v2, rfl, o2⟩; have J2 := hide (J1.out.level o2); clear o2))
        obtain ⟨ao2, cap2, rfl⟩ := J2.out.lh.form
        exact ⟨⟨k + 1, by rw [HS.out], J2, HD2⟩, by simpa [lenV2] using ME.out⟩
    · have h1 : ¬ (1 : Int) < ((lv L k).length : Int) := by omega
      have hl1 : (lv L k).length = 1 := by omega
      have hk : k = dp L.length := by
        have := HD.out
        rw [hl1, dp_low 1 (by omega)] at this
        omega
      have hrt : rtL L = ia (lv L k) 0 := by
        unfold rtL
        rw [if_neg (fun h => by rw [h] at hpos; have := HN.out.1; rw [h] at this; simp at this), hk]
      have hmu : muL L = muK L k := by unfold muL; rw [hk]
      obtain ⟨g, off, rfl⟩ := J.out.lh.base hpos
      have R1 := hide (J.out.lh.range 0 hpos)
      rw [← hrt] at R1
      have h2 : (0 : Int) < ((lv L k).length : Int) := by omega
      rw [← hmu]
      generalize hrr : rtL L = rr at *
      generalize hmm : muL L = mm at *
      have HE := hide (And.intro hrr hmm)
      clear hk hrt hmu hlt hle hn hl1 hne hrr hmm
      go_wp2_with (first | refine ET.wpLoad EH rfl _ rfl g _ rfl rr RL.out R1.out ?_ | refine wpList_storeA A25 rfl _ _ rfl _ (hc rr) (by rw [hc_size, RL.out]) (hc_one _) rfl rfl (hc zeros) (by rw [hc_size, zeros_len]) 39 J.out.r ?_)
      exact bodyPost_ret (v := .tuple #[.agg (hc rr), .bool mm]) (resAB A25 Tryd.results14 _ _ w.heap.size 39 (hc rr) (by rw [hc_size, RL.out]) rfl (setRow_heap _ _ _ _ _ _ J.out.r) _ (by rfl)) rfl ⟨by rw [HE.out.1, HE.out.2], below_setRow J.out.bel (Nat.le_refl _) _⟩
end
end Go.Proofs.YthlaibkdcebekaaDoor
