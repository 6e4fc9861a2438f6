/- Kinds of commands, lists of things that are asked for: the contracts of Kind and Asked. -/
import Derived.Test.YtiadfaipmpogbaaGreatPl
import Derived.Test.YtiadfaipmpogbaaGreatPj
namespace Go.Proofs.YtiadfaipmpogbaaGreat
open Go.RowKit
open Go.Deep
/-- r is the kind of a command, or 0 where it has none. -/
def isKind (c : ByteArray) (r : Int) : Prop := (1 ≤ r ∧ r ≤ 18 ∧ cmd r = c) ∨ (r = 0 ∧ ∀ j : Int, 1 ≤ j → j ≤ 18 → cmd j ≠ c)
theorem cmd_inj : ∀ i j : Fin 18, cmdN (i.1 + 1) = cmdN (j.1 + 1) → i = j := by decide +kernel
theorem isKind_one {c : ByteArray} {r q : Int} (h : isKind c r) (k : isKind c q) : r = q := by
  rcases h with ⟨h1, h2, h3⟩ | ⟨rfl, h⟩ <;> rcases k with ⟨k1, k2, k3⟩ | ⟨rfl, k⟩
  · obtain ⟨n, rfl⟩ := Int.eq_ofNat_of_zero_le (show 0 ≤ r by omega)
    obtain ⟨n', rfl⟩ := Int.eq_ofNat_of_zero_le (show 0 ≤ q by omega)
    rw [cmd_in n (by omega) (by omega)] at h3
    rw [cmd_in n' (by omega) (by omega)] at k3
    have := cmd_inj ⟨n - 1, by omega⟩ ⟨n' - 1, by omega⟩ (by rw [show (n - 1) + 1 = n by omega, show (n' - 1) + 1 = n' by omega, h3, k3])
    simp only [Fin.mk.injEq] at this
    omega
  · exact absurd h3 (k r h1 h2)
  · exact absurd k3 (h q k1 k2)
  · rfl
section
set_option maxRecDepth 10000
set_option maxHeartbeats 4000000
theorem kind_any (c : ByteArray) (w : World) : Calls Tryz.prog 21 #[.string c] w fun e w' => ∃ r, e = .returned (.int .i64 r) ∧ isKind c r ∧ w' = w := by
  go_enter Tryz.func21, Tryz.ntmps21
  go_wp2
  go_loopw [3] (fun i wr => ∃ k : Nat, 1 ≤ k ∧ k ≤ 19 ∧ i = .int .i64 (k : Int) ∧ wr = w ∧ Hid (∀ j : Int, 1 ≤ j → j < k → cmd j ≠ c)) (fun i _ => (19 - intOf i).toNat)
  case atStart => exact ⟨1, by omega, by omega, rfl, rfl, fun j h1 h2 => by omega⟩
  case round =>
    obtain ⟨k, h1, h19, rfl, rfl, HJ⟩ := hrel
    by_cases hlt : k ≤ 18
    · have h2 : (k : Int) ≤ 18 := by omega
      have e1 : IntKind.i64.wrap ((k : Int) + 1) = k + 1 := wrapI _ (by omega) (by omega)
      have hi := bytes_same (cmd (k : Int)) c
      have HC := hide (fun W => command_any (k : Int) W)
      by_cases hc : cmd (k : Int) = c
      · have hq : ((cmd (k : Int)).toList == c.toList) = true := by rw [hi]; exact decide_eq_true hc
        have HK := hide (show isKind c k from .inl ⟨by omega, by omega, hc⟩)
        clear hi hc HJ hlt h19
        generalize cmd (k : Int) = cm at *
        go_wp2_with (go_at_call 20; refine (HC.out _).mono ?_; rintro e w1 ⟨rfl, rfl⟩)
        go_ret
        exact ⟨_, rfl, HK.out, rfl⟩
      · have hq : ((cmd (k : Int)).toList == c.toList) = false := by rw [hi]; exact decide_eq_false hc
        have HK : Hid (∀ j : Int, 1 ≤ j → j < ((k + 1 : Nat) : Int) → cmd j ≠ c) := fun j j1 j2 => by
          by_cases e : j = k
          · rw [e]; exact hc
          · exact HJ.out j j1 (by omega)
        have KK := hide (And.intro (show 1 ≤ k + 1 by omega) (And.intro (show k + 1 ≤ 19 by omega) (show ((19 : Int) - ((k : Int) + 1)).toNat < ((19 : Int) - (k : Int)).toNat by omega)))
        clear hi hc HJ hlt h19 h1
        generalize cmd (k : Int) = cm at *
        go_wp2_with (go_at_call 20; refine (HC.out _).mono ?_; rintro e w1 ⟨rfl, rfl⟩)
        exact ⟨⟨k + 1, KK.out.1, KK.out.2.1, by go_num, trivial, HK⟩, by simpa [intOf] using KK.out.2.2⟩
    · have h2 : ¬ (k : Int) ≤ 18 := by omega
      have HK := hide (show isKind c 0 from .inr ⟨rfl, fun j j1 j2 => HJ.out j j1 (by omega)⟩)
      clear hlt h1 h19 HJ
      go_wp2
      go_ret
      exact ⟨_, rfl, HK.out, rfl⟩
end
/-! ### a copy of a list of things -/
theorem eqslI (ao : Option Addr) (n c : Nat) (w : World) : (binOp .eql 29 (.slice ao n c) (.slice none 0 0)).run Tryz.prog w = .ok (.bool ao.isNone) w := by
  cases ao <;> kernel_rfl
theorem bs0I (w : World) : (Instr.buildSlice 29 0 #[]).run Tryz.prog w = .ok (.slice (some ⟨w.heap.size, 0, none⟩) 0 0) (w.alloc (.cells #[] 81)) := by
  kernel_rfl
section
variable {α : Type} {w : World} {ops : Array Oper} {rest : List Oper} {o : Oper} {a : Act} {Q : Exit → Act → World → Prop}
theorem Ek.wpApp (E : Ek α) (hgd : o.guard = none) (x y : Operand)
    (ho : o.op = .call { callee := .builtin .append, args := #[x, y], argTypes := #[E.t, E.t] })
    (v : Value) (L : List α) (hx : a.eval x = v) (hown : OX E w v L)
    (ad : Addr) (n c : Nat) (N : List α) (hn : n = N.length) (hy : a.eval y = .slice (some ad) n c) (hnews : ∀ j u, (flatE E N)[j]? = some u → w.cell? (ad.add j) = some u) (hsm : (L.length + n) * E.b ≤ 140737488355328) (h63 : L.length + n ≤ maxLen)
    (h : ∀ v' w', OX E w' v' (L ++ N) → Onto w w' v v' → wpList Tryz.prog ops Q rest (a.put o.dst v') w') :
    wpList Tryz.prog ops Q (o :: rest) a w := by
  refine wpList_plain hgd fun K hK => ?_
  obtain ⟨v', w', hr, h2, h3⟩ := E.app (ty := o.type) hown ad n c N hn hnews hsm h63
  unfold Oper.wp execOp
  simp only [ho, resolve, invoke, builtin, Sem.run_bind, Sem.run_pure, Result.andThen_ok, List.map_toArray, List.map_cons, List.map_nil, hx, hy, hr]
  exact hK _ _ (h v' w' h2 h3)
end
section
set_option maxRecDepth 10000
set_option maxHeartbeats 4000000
theorem cloneI_any (v : Value) (L : List Im) (w : World) (h : LX KI w v L) (hz : L.length * 36 ≤ 140737488355328) : Calls Tryz.prog 47 #[v] w fun e w' => ∃ v', e = .returned v' ∧ OX KI w' v' L ∧ Below w.heap.size w w' ∧ ∀ g, v'.ownBlock = some g → w.heap.size ≤ g := by
  obtain ⟨ao, cap, rfl⟩ := h.form
  rcases ao with _ | ad
  · have hL : L = [] := by
      rcases L with _ | ⟨x, r⟩
      · rfl
      · obtain ⟨_, _, e⟩ := h.base (by simp)
        cases e
    subst hL
    have hq := eqslI none 0 cap
    clear h
    go_enter Tryz.func47, Tryz.ntmps47
    go_wp2
    go_ret
    exact ⟨_, rfl, OX.nil _, Below.refl _ _, fun g hg => by cases hg⟩
  · have hq := eqslI (some ad) L.length cap
    have h5 := bs0I
    have O0 : Hid (OX KI (w.alloc (.cells #[] 81)) (.slice (some ⟨w.heap.size, 0, none⟩) 0 0) []) := World.ownsRow_made w #[] 0 (Nat.zero_le _) (Nat.zero_le _) rfl
    have HB := hide ((Below.refl w.heap.size w).alloc (Nat.le_refl _) (.cells #[] 81))
    have HN := hide (LX.news (h.below HB.out))
    have HZ : Hid (([] : List Im).length + L.length ≤ maxLen ∧ (([] : List Im).length + L.length) * KI.b ≤ 140737488355328) := ⟨show 0 + L.length ≤ 9223372036854775807 by omega, show (0 + L.length) * 36 ≤ _ by omega⟩
    clear h hz
    go_enter Tryz.func47, Tryz.ntmps47
    go_wp2_with (at_builtin; refine Ek.wpApp KI rfl _ _ rfl _ [] rfl O0.out ad L.length cap L rfl rfl HN.out HZ.out.2 HZ.out.1 ?_; intro v' w' ho on; have OB := hide (And.intro ho on); clear ho on)
    go_ret
    obtain ⟨o, on⟩ := OB.out
    have hsz : w.heap.size ≤ (w.alloc (.cells #[] 81)).heap.size := HB.out.size
    exact ⟨_, rfl, o, HB.out.trans (on.below hsz (fun k hk => by cases hk; exact Nat.le_refl _)), on.far hsz (fun k hk => by cases hk; exact Nat.le_refl _)⟩
end
/-- What Asked makes. -/
def askM (k : Int) (L : List Im) : Mg := { zM with kind := k, items := L }
theorem run_bldK (k : Int) (L : List Im) (ao : Option Addr) (n c : Nat) (w : World) : (Instr.build 38 #[(0, .int .i64 k), (12, .slice ao n c)]).run Tryz.prog w = .ok (.agg ((askM k L).cells (nil8.ati (.slice ao n c))).toArray) w := by kernel_rfl
theorem ask_ML {w : World} {v : Value} {L : List Im} (k : Int) (h : LX KI w v L) : ML w (nil8.ati v) (askM k L) := ⟨LX.nil w, h, LX.nil w, LX.nil w, LX.nil w, LX.nil w, LX.nil w, LX.nil w⟩
def askE (k : Int) (n : Nat) : Int := if 8 ≤ k ∧ k ≤ 10 then (if 500 < n then 5 else 0) else 90
section
set_option maxRecDepth 10000
set_option maxHeartbeats 4000000
attribute [local go_sem ↓] bdM_eq
theorem asked_yes (k : Int) (hk : 8 ≤ k ∧ k ≤ 10) (v : Value) (L : List Im) (w : World) (h : LX KI w v L) (hs : L.length ≤ 500) : Calls Tryz.prog 19 #[.int .i64 k, v] w fun e w' => ∃ v', e = .returned (.tuple #[.agg ((askM k L).cells (nil8.ati v')).toArray, .int .i64 0]) ∧ LX KI w' v' L ∧ Below w.heap.size w w' := by
  have r0 := heap_alloc_last w (.cells (zM.cells nil8).toArray 38)
  have b0 : Below w.heap.size w (w.alloc (.cells (zM.cells nil8).toArray 38)) := (Below.refl _ _).alloc (Nat.le_refl _) _
  have HC := hide (cloneI_any v L _ (h.below b0) (by omega))
  obtain ⟨ao, cap, rfl⟩ := h.form
  have hl : ¬ (L.length : Int) > 500 := by omega
  have R0 := hide r0
  have B0 := hide b0
  have HZm := hide (zM.size nil8)
  have A0 := AM
  have HB : Hid (∀ ao n c W, (bdM #[(0, .int .i64 k), (12, .slice ao n c)]).run Tryz.prog W = .ok (.agg ((askM k L).cells (nil8.ati (.slice ao n c))).toArray) W) := fun ao n c W => run_bldK k L ao n c W
  have HO := hide (fun v (hv : isSl v) => (askM k L).one (nil8.ati v) ⟨nil8_ok.a, hv, nil8_ok.h, nil8_ok.hd, nil8_ok.sh, nil8_ok.f, nil8_ok.p, nil8_ok.r⟩)
  have HS := hide (fun v => (askM k L).size (nil8.ati v))
  have hk3 : k = 8 ∨ k = 9 ∨ k = 10 := by omega
  clear r0 b0 h hs hk
  generalize (zM.cells nil8).toArray = Z at *
  rcases hk3 with rfl | rfl | rfl
  all_goals
    go_enter Tryz.func19, Tryz.ntmps19
    go_upto_region 7 with (with_reducible refine at_list ?_; refine wpList_allocA A0 rfl rfl ?_)
    generalize w.alloc (.cells Z 38) = W0 at *
    go_wp2_with (first | (go_at_call 47; refine HC.out.mono ?_; rintro e W1 ⟨v', rfl, lx, be, fa⟩; obtain ⟨ao', c', rfl⟩ := lx.form; have LX1 := hide (And.intro lx fa); have R1 := hide ((be.block _ (lt_heap R0.out)).trans R0.out); have B1 := hide (below_next B0.out be); have hb := HB.out ao' L.length c'; clear lx be fa) | (with_reducible refine at_list ?_; refine wpList_storeA A0 rfl _ _ rfl w.heap.size _ (HS.out _) (HO.out _ LX1.out.1.read.isSl) rfl rfl Z HZm.out 38 R1.out ?_))
    refine bodyPost_ret (resA2 A0 rfl _ _ _ _ _ (HS.out _) rfl (setRow_heap _ _ _ _ _ _ R1.out) _ rfl) rfl ?_
    refine ⟨_, rfl, (LX1.out.1.of_block fun g hg => setRow_other _ _ _ _ ?_).read, below_setRow B1.out (Nat.le_refl _) _⟩
    have h1 := LX1.out.2 g hg
    have h2 := lt_heap R0.out
    omega
theorem asked_no (k : Int) (v : Value) (L : List Im) (w : World) (h : LX KI w v L) (hn : askE k L.length ≠ 0) : Calls Tryz.prog 19 #[.int .i64 k, v] w fun e w' => e = .returned (.tuple #[.agg (zM.cells nil8).toArray, .int .i64 (askE k L.length)]) ∧ Below w.heap.size w w' := by
  have r0 := heap_alloc_last w (.cells (zM.cells nil8).toArray 38)
  have b0 : Below w.heap.size w (w.alloc (.cells (zM.cells nil8).toArray 38)) := (Below.refl _ _).alloc (Nat.le_refl _) _
  obtain ⟨ao, cap, rfl⟩ := h.form
  have R0 := hide r0
  have B0 := hide b0
  have HZm := hide (zM.size nil8)
  have HO := hide (zM.one nil8 nil8_ok)
  have A0 := AM
  have hb : ∀ W, (bdM #[]).run Tryz.prog W = .ok (.agg (zM.cells nil8).toArray) W := fun W => AM.build W
  clear r0 b0 h
  generalize (zM.cells nil8).toArray = Z at *
  by_cases hk : 8 ≤ k ∧ k ≤ 10
  · have hl : (L.length : Int) > 500 := by
      unfold askE at hn
      rw [if_pos hk] at hn
      split at hn
      · omega
      · exact absurd rfl hn
    have e1 : askE k L.length = 5 := by unfold askE; rw [if_pos hk, if_pos (by omega)]
    rw [e1]
    have hk3 : k = 8 ∨ k = 9 ∨ k = 10 := by omega
    clear hn hk e1
    rcases hk3 with rfl | rfl | rfl
    all_goals
      go_enter Tryz.func19, Tryz.ntmps19
      go_wp2_with (with_reducible refine at_list ?_; first | refine wpList_allocA A0 rfl rfl ?_ | refine wpList_storeA A0 rfl _ _ rfl w.heap.size Z HZm.out HO.out rfl rfl Z HZm.out 38 R0.out ?_)
      refine bodyPost_ret (resA2 A0 rfl _ _ _ _ Z HZm.out rfl (setRow_heap _ _ _ _ _ _ R0.out) _ rfl) rfl ?_
      exact ⟨rfl, below_setRow B0.out (Nat.le_refl _) _⟩
  · have e1 : askE k L.length = 90 := by unfold askE; rw [if_neg hk]
    rw [e1]
    have h8 : (k == 8) = false := by rw [beq_eq_false_iff_ne]; omega
    have h9 : (k == 9) = false := by rw [beq_eq_false_iff_ne]; omega
    have h10 : (k == 10) = false := by rw [beq_eq_false_iff_ne]; omega
    clear hn hk e1
    go_enter Tryz.func19, Tryz.ntmps19
    go_wp2_with (with_reducible refine at_list ?_; first | refine wpList_allocA A0 rfl rfl ?_ | refine wpList_storeA A0 rfl _ _ rfl w.heap.size Z HZm.out HO.out rfl rfl Z HZm.out 38 R0.out ?_)
    refine bodyPost_ret (resA2 A0 rfl _ _ _ _ Z HZm.out rfl (setRow_heap _ _ _ _ _ _ R0.out) _ rfl) rfl ?_
    exact ⟨rfl, below_setRow B0.out (Nat.le_refl _) _⟩
end
end Go.Proofs.YtiadfaipmpogbaaGreat
