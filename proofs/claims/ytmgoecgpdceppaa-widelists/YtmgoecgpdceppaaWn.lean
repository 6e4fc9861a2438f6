/- wide.Sum; the law WideLists: its walk. -/
import Derived.Test.YtmgoecgpdceppaaWl
namespace Go.Proofs.Ytmgoecgpdceppaa
open Go.RowKit
open Go.Deep
/-- The sum of the first k numbers, and whether one of the sums was too great. -/
def ss (id : Nat → Nat) : Nat → Nat
  | 0 => 0
  | k + 1 => (ss id k + id k) % M
def pp (id : Nat → Nat) : Nat → Bool
  | 0 => false
  | k + 1 => pp id k || decide (M ≤ ss id k + id k)
theorem ss_lt (id : Nat → Nat) : ∀ k, ss id k < M
  | 0 => M_pos
  | _ + 1 => Nat.mod_lt _ M_pos
theorem ld_midW {W : World} {g off n : Nat} (hr : W.rangeAt g off (wn n).toList) : (Instr.loadAt 24 (.pointer (some ⟨g, off, none⟩))).run Try.prog W = .ok (.agg (wn n)) W :=
  run_loadAt_mid W g off 24 _ _ hr Try.underlying24 rfl (by rw [AW.info]; rfl)
/-- The load of a number out of a list of numbers. -/
theorem wpList_loadMW {w : World} {ops : Array Oper} {rest : List Oper} {o : Oper} {a : Act} {Q : Exit → Act → World → Prop} (hgd : o.guard = none) (x : Operand) (ho : o.op = .load 24 x) (g off : Nat) (hx : a.eval x = .pointer (some ⟨g, off, none⟩)) (n : Nat) (hr : w.rangeAt g off (wn n).toList)
    (h : wpList Try.prog ops Q rest (a.put o.dst (.agg (wn n))) w) : wpList Try.prog ops Q (o :: rest) a w := by
  refine wpList_plain hgd fun K hK => ?_
  unfold Oper.wp execOp
  simp only [ho, hx, Sem.run_bind, ld_midW hr, Result.andThen_ok, Sem.run_pure]
  exact hK _ _ h
/-- Two rows of one number each. -/
structure Bw (w W : World) (g1 g2 : Nat) (t1 t2 : TypeId) (m n : Nat) : Prop where
  a : W.heap[g1]? = some (.cells (wn m) t1 (0, 0))
  b : W.heap[g2]? = some (.cells (wn n) t2 (0, 0))
  bel : Below w.heap.size w W
section
variable {w W W' : World} {g1 g2 : Nat} {t1 t2 : TypeId} {m n : Nat}
theorem Bw.next (j : Bw w W g1 g2 t1 t2 m n) (h : Below W.heap.size W W') : Bw w W' g1 g2 t1 t2 m n :=
  ⟨(h.block _ (lt_heap j.a)).trans j.a, (h.block _ (lt_heap j.b)).trans j.b, below_next j.bel h⟩
theorem Bw.alloc (j : Bw w W g1 g2 t1 t2 m n) (o : Obj) : Bw w (W.alloc o) g1 g2 t1 t2 m n := j.next ((Below.refl _ _).alloc (Nat.le_refl _) _)
theorem Bw.put (j : Bw w W g1 g2 t1 t2 m n) (hne : g1 ≠ g2) (h2 : w.heap.size ≤ g2) (k : Nat) : Bw w (W.setRow g2 (wn k)) g1 g2 t1 t2 m k :=
  ⟨(setRow_other _ _ _ _ hne).trans j.a, setRow_heap _ _ _ _ _ _ j.b, below_setRow j.bel h2 _⟩
end
section
set_option maxRecDepth 10000
set_option maxHeartbeats 2000000
theorem sum_any (ao : Option Addr) (n cap : Nat) (id : Nat → Nat) (w : World) (hn : n ≤ 9223372036854775807) (hp : Wds w ao n id) : Calls Try.prog 23 #[.slice ao n cap] w fun e w' => e = .returned (.tuple #[.agg (wn (ss id n)), .bool (pp id n)]) ∧ Below w.heap.size w w' := by
  have HP := hide hp
  have HN := hide hn
  have J0 : Hid (Bw w ((w.alloc (.cells (wn 0) 24)).alloc (.cells (wn 0) 24)) w.heap.size (w.heap.size + 1) 24 24 0 0) := ⟨(blk2x w _ _).1, (blk2x w _ _).2, below2x w _ _⟩
  clear hp hn
  go_enter Try.func23, Try.ntmps23
  go_wp2_with (first | refine wpList_allocA AW rfl rfl ?_)
  generalize (w.alloc (.cells (wn 0) 24)).alloc (.cells (wn 0) 24) = W0 at *
  go_loopw [5, 7, 8, 9, 12] (fun p _ _ _ c wr => ∃ k : Nat, k ≤ n ∧ p = .bool (pp id k) ∧ c = .int .i64 k ∧ Hid (Bw w wr w.heap.size (w.heap.size + 1) 24 24 0 (ss id k))) (fun _ _ _ _ c _ => (n - intOf c).toNat)
  case atStart => exact ⟨0, by omega, rfl, rfl, J0⟩
  case round =>
    clear J0
    obtain ⟨k, hk, rfl, rfl, J⟩ := hrel
    by_cases hlt : k < n
    · obtain ⟨hl, g, off, rfl, hg, hr⟩ := HP.out k hlt
      have k0' : (0 : Int) ≤ k := by omega
      have k1' : (k : Int) < n := by omega
      have hw : IntKind.i64.wrap ((k : Int) + 1) = k + 1 := wrapI _ (by omega) (by have := HN.out; omega)
      have hR := hide (range_below hr J.out.bel hg)
      have HA := hide fun W => wadd_any (ss id k) (id k) (ss_lt id k) hl W
      rw [← wn_mod (ss id k + id k)] at HA
      have HS : Hid (ss id (k + 1) = (ss id k + id k) % M ∧ pp id (k + 1) = (pp id k || decide (M ≤ ss id k + id k))) := ⟨rfl, rfl⟩
      clear hr hl
      generalize (ss id k + id k) % M = s1 at *
      generalize decide (M ≤ ss id k + id k) = ov at *
      generalize id k = L at *
      generalize ss id k = s0 at *
      generalize pp id k = p at *
      go_upto_region 6 with (first | refine wpList_loadMW rfl _ rfl g (off + k * 4) rfl L hR.out ?_ | refine wpList_allocA AW rfl rfl ?_ | refine wpList_store_newA AW rfl _ _ rfl _ rfl (wn L) (wn_size _) (wn_one _) rfl rfl ?_)
      have hI := hide (heap_alloc_last wr (.cells (wn L) 24))
      have J1 := hide (J.out.alloc (.cells (wn L) 24))
      generalize wr.alloc (.cells (wn L) 24) = W1 at *
      generalize wr.heap.size = gI at *
      clear J hR
      have b1 := hide J1.out.b
      go_upto_region 7 with (first | refine wpList_loadA AW rfl _ rfl _ rfl (wn s0) (wn_size _) 24 b1.out ?_ | refine wpList_loadA AW rfl _ rfl _ rfl (wn L) (wn_size _) 24 hI.out ?_ | (go_at_call 10; refine (HA.out _).mono ?_; rintro e w2 ⟨rfl, b2⟩; have J2 := hide (J1.out.next b2); clear b2) | refine wpList_allocA AW rfl rfl ?_ | refine wpList_store_newA AW rfl _ _ rfl _ rfl (wn s1) (wn_size _) (wn_one _) rfl rfl ?_)
      have hI2 := hide (heap_alloc_last w2 (.cells (wn s1) 24))
      have J3 := hide (J2.out.alloc (.cells (wn s1) 24))
      generalize w2.alloc (.cells (wn s1) 24) = W3 at *
      generalize w2.heap.size = gJ at *
      clear J1 J2 hI b1 HA
      have b3 := hide J3.out.b
      cases p
      all_goals
        go_wp2_with (first | refine wpList_loadA AW rfl _ rfl _ rfl (wn s1) (wn_size _) 24 hI2.out ?_ | refine wpList_storeA AW rfl _ _ rfl _ (wn s1) (wn_size _) (wn_one _) rfl rfl (wn s0) (wn_size _) 24 b3.out ?_)
        exact ⟨⟨k + 1, by omega, by rw [HS.out.2]; simp, by go_num, hide (by rw [HS.out.1]; exact J3.out.put (by omega) (by omega) s1)⟩, by simp [intOf]; omega⟩
    · have hke : k = n := by omega
      subst hke
      have b1 := hide J.out.b
      have a1 := hide J.out.a
      go_wp2_with (first | refine wpList_loadA AW rfl _ rfl _ rfl (wn (ss id k)) (wn_size _) 24 b1.out ?_ | refine wpList_storeA AW rfl _ _ rfl _ (wn (ss id k)) (wn_size _) (wn_one _) rfl rfl (wn 0) (wn_size 0) 24 a1.out ?_)
      exact bodyPost_ret (v := .tuple #[.agg (wn (ss id k)), .bool (pp id k)]) (resA2 AW Try.results23 _ _ w.heap.size 24 (wn (ss id k)) (wn_size _) rfl (setRow_heap _ _ _ _ _ _ J.out.a) _ (by rfl)) rfl ⟨rfl, below_setRow J.out.bel (Nat.le_refl _) _⟩
theorem wideLists_walk (ao : Option Addr) (n cap : Nat) (id : Nat → Nat) (w : World) (hn : n ≤ 9223372036854775807) (hp : Wds w ao n id) : Calls Try.prog 4 #[.slice ao n cap] w fun e w' => e = .returned (.bool true) ∧ Below w.heap.size w w' := by
  have HP := hide hp
  have HN := hide hn
  have HSum := hide (sum_any ao n cap id w hn hp)
  have HAw := hide fun W => awake_any W
  have HE := hide fun W => eqW (ss id n) (ss id n) (ss_lt id n) (ss_lt id n) W
  rw [show decide (ss id n = ss id n) = true by simp] at HE
  clear hp hn
  go_enter Try.func4, Try.ntmps4
  go_upto_region 2 with (first | (go_at_call 23; refine HSum.out.mono ?_; rintro e w1 ⟨rfl, b1⟩; have B1 := hide b1; clear b1) | refine wpList_allocA AW rfl rfl ?_ | refine wpList_store_newA AW rfl _ _ rfl _ rfl (wn (ss id n)) (wn_size _) (wn_one _) rfl rfl ?_)
  have J0 : Hid (Bw w ((w1.alloc (.cells (wn (ss id n)) 24)).alloc (.cells (wn 0) 23)) w1.heap.size (w1.heap.size + 1) 24 23 (ss id n) 0) := ⟨(blk2x w1 _ _).1, (blk2x w1 _ _).2, below_next B1.out (below2x w1 _ _)⟩
  have hle := hide B1.out.size
  go_wp2_with (first | refine wpList_allocA AR rfl rfl ?_ | refine wpList_buildA AR rfl rfl ?_ | refine wpList_store_newA AR rfl _ _ rfl _ rfl (wn 0) (wn_size _) (wn_one _) rfl rfl ?_)
  generalize (w1.alloc (.cells (wn (ss id n)) 24)).alloc (.cells (wn 0) 23) = W0 at *
  generalize w1.heap.size = g1 at *
  clear HSum B1
  go_loopw [6, 8, 9, 10, 19] (fun p _ _ _ c wr => ∃ k : Nat, k ≤ n ∧ p = .bool (pp id k) ∧ c = .int .i64 k ∧ Hid (Bw w wr g1 (g1 + 1) 24 23 (ss id n) (ss id k))) (fun _ _ _ _ c _ => (n - intOf c).toNat)
  case atStart => exact ⟨0, by omega, rfl, rfl, J0⟩
  case round =>
    clear J0
    obtain ⟨k, hk, rfl, rfl, J⟩ := hrel
    by_cases hlt : k < n
    · obtain ⟨hl, g, off, rfl, hg, hr⟩ := HP.out k hlt
      have k0' : (0 : Int) ≤ k := by omega
      have k1' : (k : Int) < n := by omega
      have hw : IntKind.i64.wrap ((k : Int) + 1) = k + 1 := wrapI _ (by omega) (by have := HN.out; omega)
      have hR := hide (range_below hr J.out.bel hg)
      have HA := hide fun W => radd_any (ss id k) (id k) (ss_lt id k) hl W
      rw [← wn_mod (ss id k + id k)] at HA
      have HS : Hid (ss id (k + 1) = (ss id k + id k) % M ∧ pp id (k + 1) = (pp id k || decide (M ≤ ss id k + id k))) := ⟨rfl, rfl⟩
      clear hr hl HE
      generalize (ss id k + id k) % M = s1 at *
      generalize decide (M ≤ ss id k + id k) = ov at *
      generalize id k = L at *
      generalize ss id k = s0 at *
      generalize pp id k = p at *
      go_upto_region 6 with (first | refine wpList_loadMW rfl _ rfl g (off + k * 4) rfl L hR.out ?_ | refine wpList_allocA AW rfl rfl ?_ | refine wpList_store_newA AW rfl _ _ rfl _ rfl (wn L) (wn_size _) (wn_one _) rfl rfl ?_)
      have hI := hide (heap_alloc_last wr (.cells (wn L) 24))
      have J1 := hide (J.out.alloc (.cells (wn L) 24))
      generalize wr.alloc (.cells (wn L) 24) = W1 at *
      generalize wr.heap.size = gI at *
      clear J hR
      have b1 := hide J1.out.b
      go_upto_region 7 with (first | refine wpList_loadA AR rfl _ rfl _ rfl (wn s0) (wn_size _) 23 b1.out ?_ | refine wpList_loadA AW rfl _ rfl _ rfl (wn L) (wn_size _) 24 hI.out ?_ | (go_at_call 11; refine (HA.out _).mono ?_; rintro e w2 ⟨rfl, b2⟩; have J2 := hide (J1.out.next b2); clear b2) | refine wpList_allocA AR rfl rfl ?_ | refine wpList_store_newA AR rfl _ _ rfl _ rfl (wn s1) (wn_size _) (wn_one _) rfl rfl ?_)
      have hI2 := hide (heap_alloc_last w2 (.cells (wn s1) 23))
      have J3 := hide (J2.out.alloc (.cells (wn s1) 23))
      generalize w2.alloc (.cells (wn s1) 23) = W3 at *
      generalize w2.heap.size = gJ at *
      clear J1 J2 hI b1 HA
      have b3 := hide J3.out.b
      cases p
      all_goals
        go_wp2_with (first | refine wpList_loadA AR rfl _ rfl _ rfl (wn s1) (wn_size _) 23 hI2.out ?_ | refine wpList_storeA AR rfl _ _ rfl _ (wn s1) (wn_size _) (wn_one _) rfl rfl (wn s0) (wn_size _) 23 b3.out ?_)
        exact ⟨⟨k + 1, by omega, by rw [HS.out.2]; simp, by go_num, hide (by rw [HS.out.1]; exact J3.out.put (by omega) (by have := hle.out; omega) s1)⟩, by simp [intOf]; omega⟩
    · have hke : k = n := by omega
      subst hke
      have hp : (pp id k == pp id k) = true := by simp
      go_wp2_with (first | (go_at_call 9; refine (HAw.out _).mono ?_; rintro e w2 ⟨rfl, b2⟩; have J2 := hide (J.out.next b2); have a2 := hide J2.out.a; have c2 := hide J2.out.b; clear b2) | refine wpList_loadW AW rfl _ rfl _ rfl (wn (ss id k)) (wn_size _) 24 a2.out ?_ | refine wpList_loadW AR rfl _ rfl _ rfl (wn (ss id k)) (wn_size _) 23 c2.out ?_ | refine wpList_eql 24 _ _ _ rfl (wn (ss id k)) (wn (ss id k)) rfl rfl rfl eqgW true HE.out ?_)
      go_ret
      exact ⟨rfl, J2.out.bel⟩
end
end Go.Proofs.Ytmgoecgpdceppaa
