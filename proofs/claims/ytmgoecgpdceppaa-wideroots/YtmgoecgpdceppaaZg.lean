/- The contract of the document's Root. -/
import Derived.Test.YtmgoecgpdceppaaZc
import Derived.Test.YtmgoecgpdceppaaZe
namespace Go.Proofs.Ytmgoecgpdceppaa
open Go.RowKit
open Go.Deep
/-- A bit more in a number: the word, the place in it, the bit, the word behind. -/
structure Pf (x n q r p s : Nat) : Prop where
  d1 : (n : Int) / 64 = (q : Int)
  d2 : (n : Int) % 64 = (r : Int)
  n0 : (0 : Int) ≤ n
  q0 : (0 : Int) ≤ q
  q4 : (q : Int) < 4
  q4n : q < 4
  r0 : (0 : Int) ≤ r
  r6 : (r : Int) ≤ 64
  shl : IntKind.u64.wrap ((2 : Int) ^ r) = (p : Int)
  sum : IntKind.u64.wrap (((wd x q : Nat) : Int) + (p : Int)) = (s : Int)
  all : ∀ j, (if j = q then s else wd x j) = wd (x + 2 ^ n) j
theorem put_facts (x n : Nat) (hn : n < 256) (hb : x.testBit n = false) : ∃ q r p s, Pf x n q r p s := by
  obtain ⟨p1, p2, p3⟩ := wd_put x n hb
  refine ⟨n / 64, n % 64, 2 ^ (n % 64), wd x (n / 64) + 2 ^ (n % 64), ⟨by omega, by omega, by omega, by omega, by omega, by omega, by omega, by omega, one_shl _ (by omega), ?_, fun j => (p3 j).symm⟩⟩
  rw [← Int.natCast_add]
  generalize wd x (n / 64) + 2 ^ (n % 64) = s at *
  exact wrapu _ (by omega) (by omega)
section
set_option maxRecDepth 10000
set_option maxHeartbeats 2000000
theorem rroot_any (m : Nat) (hm : m < M) (w : World) : Calls Try.prog 44 #[.agg (wn m)] w fun e w' => e = .returned (.agg (wn (rt m))) ∧ Below w.heap.size w w' := by
  have J0 : Hid (Tri w (((w.alloc (.cells (wn m) 23)).alloc (.cells (wn 0) 23)).alloc (.cells (wn 0) 23)) 23 m (rn m 128)) := by
    unfold Hid
    rw [rn_128 m hm]
    exact Tri.start w 23 m 0
  have HM := hide hm
  clear hm
  go_enter Try.func44, Try.ntmps44
  go_wp2_with (first | refine wpList_boxA rfl _ rfl (wn m) rfl ?_ | refine wpList_allocA AR rfl rfl ?_ | refine wpList_buildA AR rfl rfl ?_ | refine wpList_store_newA AR rfl _ _ rfl _ rfl (wn 0) (wn_size _) (wn_one _) rfl rfl ?_)
  generalize ((w.alloc (.cells (wn m) 23)).alloc (.cells (wn 0) 23)).alloc (.cells (wn 0) 23) = W0 at *
  go_loopw [4, 5, 6, 7] (fun d _ _ _ wr => ∃ n : Nat, n ≤ 128 ∧ d = .int .i64 ((n : Int) - 1) ∧ Hid (Tri w wr 23 m (rn m n))) (fun d _ _ _ _ => (1 + intOf d).toNat)
  case atStart => exact ⟨128, by omega, rfl, J0⟩
  case round =>
    clear J0
    obtain ⟨n, hn, rfl, J⟩ := hrel
    rcases n with _ | k
    · have h0 : ¬ (0 : Int) ≤ ((0 : Nat) : Int) - 1 := by omega
      rw [rn_zero] at J
      have H2 := hide J.out.c
      go_wp2_with (first | refine wpList_loadA AR rfl _ rfl _ rfl (wn (rt m)) (wn_size _) 23 H2.out ?_ | refine wpList_storeA AR rfl _ _ rfl _ (wn (rt m)) (wn_size _) (wn_one _) rfl rfl (wn 0) (wn_size 0) 23 J.out.b ?_)
      exact bodyPost_ret (v := .agg (wn (rt m))) (resA AR Try.results44 _ _ (w.heap.size + 1) 23 (wn (rt m)) (wn_size _) rfl (setRow_heap _ _ _ _ _ _ J.out.b)) rfl ⟨rfl, below_setRow J.out.bel (by omega) _⟩
    · have e1 : ((k + 1 : Nat) : Int) - 1 = k := by omega
      have k0 : (0 : Int) ≤ k := by omega
      rw [e1]
      obtain ⟨q, rr, p, s, PF⟩ := put_facts (rn m (k + 1)) k (by omega) (rn_bit m k)
      have hy := rn_try m k HM.out (by omega)
      obtain ⟨y1, y2, y3⟩ := sq_M _ hy
      have HMu := hide fun W => rmul_any _ _ y1 y1 W
      rw [y3] at HMu
      have HC := hide fun W => rcompare_any _ _ y2 HM.out W
      have HE := hide fun W => eqR 0 0 M_pos M_pos W
      rw [show decide (0 = 0) = true by decide] at HE
      have hkw : IntKind.i64.wrap ((k : Int) - 1) = k - 1 := wrapI _ (by omega) (by omega)
      have hst := rn_step m k
      have KK := hide (show k ≤ 128 by omega)
      have hcl := cmp_le ((rn m (k + 1) + 2 ^ k) * (rn m (k + 1) + 2 ^ k)) m
      generalize hR : rn m (k + 1) = r at *
      have PFh := hide PF.all
      have d1 := PF.d1
      have d2 := PF.d2
      have q0 := PF.q0
      have q4 := PF.q4
      have r0 := PF.r0
      have r6 := PF.r6
      have shl := PF.shl
      have sum := PF.sum
      have Q4 := hide PF.q4n
      clear PF
      obtain ⟨y, hye⟩ : ∃ y, y = r + 2 ^ k := ⟨_, rfl⟩
      rw [← hye] at PFh HMu HC hst hcl
      clear hy y1 y2 y3 hR hye hn e1
      have HST := hide hst
      clear hst
      generalize y * y = sq at *
      generalize cmpZ sq m = z at *
      have c0 := hide J.out.c
      go_upto_region 6 with (first | refine wpList_loadA AR rfl _ rfl _ rfl (wn r) (wn_size _) 23 c0.out ?_ | refine wpList_allocA AR rfl rfl ?_ | refine wpList_store_newA AR rfl _ _ rfl _ rfl (wn r) (wn_size _) (wn_one _) rfl rfl ?_)
      have G1 := hide (nd_alloc wr 23 r)
      have J2 := hide (J.out.alloc (.cells (wn r) 23))
      have LG := hide J.out.lt
      generalize wr.alloc (.cells (wn r) 23) = W2 at *
      generalize wr.heap.size = g at *
      clear J c0
      have cq := G1.out.cell Q4.out
      have fq := G1.out.fz q
      simp only [Act.put, List.setIfInBounds_toArray, List.set_cons_succ, List.set_cons_zero]
      go_region
      have G3 : Hid ((W2.setCell ⟨g, q, none⟩ (.int .u64 (s : Int))).drew.heap[g]? = some (.cells (wn y) 23 (0, 0))) := ((G1.out.set q s).congr (fun j _ => PFh.out j)).heap
      have J3 : Hid (Tri w (W2.setCell ⟨g, q, none⟩ (.int .u64 (s : Int))).drew 23 m r) := by
        have := LG.out
        exact ⟨(Below.heap_setCell _ _ _ _ (by simp; omega)).trans J2.out.a, (Below.heap_setCell _ _ _ _ (by simp; omega)).trans J2.out.b, (Below.heap_setCell _ _ _ _ (by simp; omega)).trans J2.out.c, (J2.out.bel.setCell (by simp; omega) _).drew⟩
      generalize (W2.setCell ⟨g, q, none⟩ (.int .u64 (s : Int))).drew = W3 at *
      clear G1 J2 cq fq PFh
      go_upto_region 8 with (first | refine wpList_loadA AR rfl _ rfl _ rfl (wn y) (wn_size _) 23 G3.out ?_ | (go_at_call 15; refine (HMu.out _).mono ?_; rintro e w4 ⟨rfl, b4⟩; have J4 := hide (J3.out.next b4); have G4 := hide ((b4.block _ (lt_heap G3.out)).trans G3.out); clear b4) | refine wpList_allocA AR rfl rfl ?_ | refine wpList_storeA AR rfl _ _ rfl _ (wn sq) (wn_size _) (wn_one _) rfl rfl (wn 0) (wn_size _) 23 (blk2x w4 (.cells (wn 0) 23) (.cells (wn 0) 23)).1 ?_ | refine wpList_storeA AR rfl _ _ rfl _ (wn 0) (wn_size _) (wn_one _) rfl rfl (wn 0) (wn_size _) 23 (blk2s w4 (.cells (wn 0) 23) (.cells (wn 0) 23) (wn sq)) ?_)
      obtain ⟨r3, r4, rb⟩ := blk2w w4 23 (wn 0) (wn sq) (wn 0)
      have S1 := hide r3
      have S2 := hide r4
      have J5 := hide (J4.out.next rb)
      have G5 := hide ((rb.block _ (lt_heap G4.out)).trans G4.out)
      try rw [show (w4.alloc (.cells (wn 0) 23)).heap.size = w4.heap.size + 1 by simp]
      generalize (((w4.alloc (.cells (wn 0) 23)).alloc (.cells (wn 0) 23)).setRow w4.heap.size (wn sq)).setRow (w4.heap.size + 1) (wn 0) = W5 at *
      generalize w4.heap.size = g3 at *
      clear r3 r4 rb J3 G3 J4 G4 HMu
      have a4 := hide J5.out.a
      by_cases hz : z ≤ 0
      · rw [if_pos (hcl.1 hz)] at HST
        clear hcl
        go_wp2_with (first | refine wpList_loadW AR rfl _ rfl _ rfl (wn 0) (wn_size _) 23 S2.out ?_ | refine wpList_build0 AR rfl rfl ?_ | refine wpList_eql 23 _ _ _ rfl (wn 0) (wn 0) rfl rfl rfl eqgR true HE.out ?_ | refine wpList_loadW AR rfl _ rfl _ rfl (wn sq) (wn_size _) 23 S1.out ?_ | refine wpList_loadW AR rfl _ rfl _ rfl (wn m) (wn_size _) 23 a4.out ?_ | (go_at_call 17; refine (HC.out _).mono ?_; rintro e w6 ⟨rfl, b6⟩; have J6 := hide (J5.out.next b6); have G6 := hide ((b6.block _ (lt_heap G5.out)).trans G5.out); have c6 := hide J6.out.c; clear b6) | refine wpList_loadA AR rfl _ rfl _ rfl (wn y) (wn_size _) 23 G6.out ?_ | refine wpList_storeA AR rfl _ _ rfl _ (wn y) (wn_size _) (wn_one _) rfl rfl (wn r) (wn_size _) 23 c6.out ?_)
        have L4 := KK.out
        exact ⟨⟨k, KK.out, rfl, by rw [HST.out]; exact J6.out.put y⟩, by simp [intOf]; omega⟩
      · rw [if_neg (fun h => hz (hcl.2 h))] at HST
        clear hcl
        go_wp2_with (first | refine wpList_loadW AR rfl _ rfl _ rfl (wn 0) (wn_size _) 23 S2.out ?_ | refine wpList_build0 AR rfl rfl ?_ | refine wpList_eql 23 _ _ _ rfl (wn 0) (wn 0) rfl rfl rfl eqgR true HE.out ?_ | refine wpList_loadW AR rfl _ rfl _ rfl (wn sq) (wn_size _) 23 S1.out ?_ | refine wpList_loadW AR rfl _ rfl _ rfl (wn m) (wn_size _) 23 a4.out ?_ | (go_at_call 17; refine (HC.out _).mono ?_; rintro e w6 ⟨rfl, b6⟩; have J6 := hide (J5.out.next b6); clear b6))
        have L4 := KK.out
        exact ⟨⟨k, KK.out, rfl, by rw [HST.out]; exact J6.out⟩, by simp [intOf]; omega⟩
end
end Go.Proofs.Ytmgoecgpdceppaa
