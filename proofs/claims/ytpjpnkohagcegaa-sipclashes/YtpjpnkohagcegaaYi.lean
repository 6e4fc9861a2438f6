/- The contract of Part; the law SipDigests: its walk. -/
import Derived.Test.YtpjpnkohagcegaaYh
namespace Go.Proofs.Ytpjpnkohagcegaa
open Go.RowKit
open Go.Deep
section
set_option maxRecDepth 10000
set_option maxHeartbeats 1000000
theorem part_bad (k0 k1 : UInt64) (q : ByteArray) (p : Int) (hp : p < 1 ∨ 2147483647 < p) (w : World) : Calls Try.prog 6 #[.agg (qc [k0, k1]), .string q, .int .i64 p] w fun e w' => e = .returned (.tuple #[.int .i64 0, .int .i64 1]) ∧ Below w.heap.size w w' := by
  have BB := hide ((Below.refl w.heap.size w).alloc (Nat.le_refl _) (.cells (qc [k0, k1]) 24))
  by_cases h1 : p < 1
  · go_enter Try.func6, Try.ntmps6
    go_wp2_with (refine wpList_boxA rfl _ rfl (qc [k0, k1]) rfl ?_)
    go_ret2
    exact ⟨rfl, BB.out⟩
  · have h2 : 2147483647 < p := by omega
    go_enter Try.func6, Try.ntmps6
    go_wp2_with (refine wpList_boxA rfl _ rfl (qc [k0, k1]) rfl ?_)
    go_ret2
    exact ⟨rfl, BB.out⟩
theorem part_good (k0 k1 : UInt64) (q : ByteArray) (hq : q.size < 9223372036854775800) (p : Int) (h1 : 1 ≤ p) (h2 : p ≤ 2147483647) (w : World) : Calls Try.prog 6 #[.agg (qc [k0, k1]), .string q, .int .i64 p] w fun e w' => e = .returned (.tuple #[.int .i64 (((sipM k0 k1 q.data.toList).toNat : Int) % p), .int .i64 0]) ∧ Below w.heap.size w w' := by
  have HK := hide (heap_alloc_last w (.cells (qc [k0, k1]) 24))
  have BB := hide ((Below.refl w.heap.size w).alloc (Nat.le_refl _) (.cells (qc [k0, k1]) 24))
  have HH := hide fun W => hash_any k0 k1 q hq W
  generalize (sipM k0 k1 q.data.toList) = R at *
  have n1 : ¬ p < 1 := by omega
  have n2 : ¬ 2147483647 < p := by omega
  have n3 : p ≠ 0 := by omega
  have hw : IntKind.u64.wrap p = p := wrapu _ (by omega) (by omega)
  have hm0 := Int.emod_nonneg (R.toNat : Int) n3
  have hm1 := Int.emod_lt_of_pos (R.toNat : Int) (show 0 < p by omega)
  have hw2 : IntKind.i64.wrap ((R.toNat : Int) % p) = (R.toNat : Int) % p := wrapI _ (by omega) (by omega)
  go_enter Try.func6, Try.ntmps6
  go_wp2_with (first | refine wpList_boxA rfl _ rfl (qc [k0, k1]) rfl ?_ | refine wpList_loadA AK rfl _ rfl _ rfl (qc [k0, k1]) rfl 24 HK.out ?_ | (go_at_call 8; refine (HH.out _).mono ?_; rintro e w1 ⟨rfl, b1⟩; have B1 := hide (BB.out.trans (b1.mono BB.out.size)); clear b1))
  go_ret2
  exact ⟨rfl, B1.out⟩
end
/-- The cells of SipDigests' input. -/
def dA (k0 k1 : UInt64) (s : ByteArray) (v : Q4) (p : Int) : Array Value := #[.int .u64 (k0.toNat : Int), .int .u64 (k1.toNat : Int), .string s, .int .u64 (v.a.toNat : Int), .int .u64 (v.b.toNat : Int), .int .u64 (v.c.toNat : Int), .int .u64 (v.d.toNat : Int), .int .i64 p]
def ldk (x : Value) : Sem Value := Instr.loadAt 24 x
theorem ldk_eq (x : Value) : Instr.loadAt 24 x = ldk x := rfl
def svk (x y : Value) : Sem Unit := Instr.storeAt 24 x y
theorem svk_eq (x y : Value) : Instr.storeAt 24 x y = svk x y := rfl
/-- What is known of the world in SipDigests: the keys at block a, the words at block b. -/
structure Jd (w W : World) (a b : Nat) (k0 k1 : UInt64) (v : Q4) : Prop where
  ka : W.heap[a]? = some (.cells (qc [k0, k1]) 24 (0, 0))
  vb : W.heap[b]? = some (.cells (qc v.list) 25 (0, 0))
  below : Below w.heap.size w W
theorem Jd.next {w W W' : World} {a b : Nat} {k0 k1 : UInt64} {v : Q4} (j : Jd w W a b k0 k1 v) (h : Below W.heap.size W W') : Jd w W' a b k0 k1 v :=
  ⟨(h.block _ (lt_heap j.ka)).trans j.ka, (h.block _ (lt_heap j.vb)).trans j.vb, j.below.trans (h.mono j.below.size)⟩
theorem Jd.c0 {w W : World} {a b : Nat} {k0 k1 : UInt64} {v : Q4} (j : Jd w W a b k0 k1 v) : W.cell? ⟨a, 0, none⟩ = some (.int .u64 (k0.toNat : Int)) := cell_of_row _ _ 0 _ _ _ j.ka
theorem Jd.c1 {w W : World} {a b : Nat} {k0 k1 : UInt64} {v : Q4} (j : Jd w W a b k0 k1 v) : W.cell? ⟨a, 1, none⟩ = some (.int .u64 (k1.toNat : Int)) := cell_of_row _ _ 1 _ _ _ j.ka
/-- Arrays held against each other by '!=', as an operation of a quiet walk. -/
theorem quiet_neq {C : World → Prop} {a : Act} {o : Oper} {K : Act → Prop} (t : TypeId) (x y : Operand) (t2 : TypeId) (ho : o.op = .binOp .neq t x y t2) (c d : Array Value) (hx : a.eval x = .agg c) (hy : a.eval y = .agg d) (hg : Try.prog.eqGuardType Try.prog.depth t = false)
    (v : Bool) (hr : ∀ W, (Op.equalIn 10000 t (.agg c) (.agg d)).run Try.prog W = .ok v W) (hk : K (a.put o.dst (.bool !v))) : o.quiet Try.prog a C K := by
  refine ⟨.bool !v, fun W _ => ?_, hk⟩
  unfold Oper.quietAt execOp
  simp only [ho, hx, hy, Sem.run_bind, run_eqGuard_agg (P := Try.prog) W .neq t x y c d hg, run_neq_struct, hr W, Result.andThen_ok, Sem.run_pure]
  exact ⟨rfl, rfl⟩
theorem size22 (w : World) : (sizeOf 22).run Try.prog w = .ok 1 w := by kernel_rfl
theorem eqgq : Try.prog.eqGuardType Try.prog.depth 25 = false := by kernel_rfl
/-- Four words are equal to themselves. -/
theorem eq_words4 (l : List UInt64) (hl : l.length = 4) (w : World) : (Op.equalIn 10000 25 (.agg (qc l)) (.agg (qc l))).run Try.prog w = .ok true w := by
  rw [Op.equalIn]
  simp only [Sem.run_bind, run_underlying Try.underlying25, Result.andThen_ok, size22, Std.Legacy.Range.forIn_eq_forIn_range', Std.Legacy.Range.size, Nat.sub_zero, Nat.add_sub_cancel, Nat.div_one]
  have hr : ∀ i ∈ List.range' 0 4 1, i < 4 := fun i hi => by simpa using (List.mem_range'_1.1 hi).2
  generalize List.range' 0 4 1 = r at hr ⊢
  induction r with
  | nil => simp
  | cons i r ih =>
    have hi : i < 4 := hr i (by simp)
    have hp : (Go.part 22 (qc l) (i * 1)).run Try.prog w = .ok (.int .u64 ((l.getD i 0).toNat : Int)) w := by
      simp [Go.part, isAgg, run_underlying Try.underlying22, qc, List.getElem?_eq_getElem (show i < l.length by omega)]
    have he := run_equalIn_int w 9998 22 .u64 .u64 ((l.getD i 0).toNat : Int) ((l.getD i 0).toNat : Int) Try.underlying22
    rw [beq_self_eq_true] at he
    simp only [List.forIn_cons, Sem.run_bind, hp, he, Result.andThen_ok, Bool.not_true, Bool.false_eq_true, if_false, Sem.run_pure]
    exact ih fun j hj => hr j (by simp [hj])
theorem dcells {W : World} {g : Nat} {t : TypeId} {k0 k1 : UInt64} {s : ByteArray} {v : Q4} {p : Int} (h : W.heap[g]? = some (.cells (dA k0 k1 s v p) t (0, 0))) : W.cell? ⟨g, 0, none⟩ = some (Value.int .u64 (k0.toNat : Int)) ∧ W.cell? ⟨g, 1, none⟩ = some (Value.int .u64 (k1.toNat : Int)) ∧ W.cell? ⟨g, 2, none⟩ = some (Value.string s) ∧ W.cell? ⟨g, 3, none⟩ = some (Value.int .u64 (v.a.toNat : Int)) ∧ W.cell? ⟨g, 4, none⟩ = some (Value.int .u64 (v.b.toNat : Int)) ∧ W.cell? ⟨g, 5, none⟩ = some (Value.int .u64 (v.c.toNat : Int)) ∧ W.cell? ⟨g, 6, none⟩ = some (Value.int .u64 (v.d.toNat : Int)) ∧ W.cell? ⟨g, 7, none⟩ = some (Value.int .i64 p) :=
  ⟨cell_of_row _ _ 0 _ _ _ h, cell_of_row _ _ 1 _ _ _ h, cell_of_row _ _ 2 _ _ _ h, cell_of_row _ _ 3 _ _ _ h, cell_of_row _ _ 4 _ _ _ h, cell_of_row _ _ 5 _ _ _ h, cell_of_row _ _ 6 _ _ _ h, cell_of_row _ _ 7 _ _ _ h⟩
section
set_option maxRecDepth 10000
set_option maxHeartbeats 4000000
theorem sipDigests_walk (k0 k1 : UInt64) (s : ByteArray) (hs : s.size < 9223372036854775000) (v : Q4) (p : Int) (w : World) : Calls Try.prog 3 #[.agg (dA k0 k1 s v p)] w fun e w' => e = .returned (.bool true) ∧ Below w.heap.size w w' := by
  have HD := hide (heap_alloc_last w (.cells (dA k0 k1 s v p) 27))
  have BB := hide ((Below.refl w.heap.size w).alloc (Nat.le_refl _) (.cells (dA k0 k1 s v p) 27))
  go_enter Try.func3, Try.ntmps3
  go_upto_region 1 with (refine wpList_boxA rfl _ rfl (dA k0 k1 s v p) rfl ?_)
  obtain ⟨c0, c1, c2, c3, c4, c5, c6, c7⟩ := dcells HD.out
  generalize w.alloc (.cells (dA k0 k1 s v p) 27) = W0 at *
  have n0 := World.new_ne W0 ⟨w.heap.size, 0, none⟩ c0
  go_cut [3, 4, 5, 6] from 9 to 16 (fun s3 s4 s5 s6 wx => ∃ a b, s3 = .pointer (some ⟨a, 0, none⟩) ∧ s4 = .string s ∧ s5 = .pointer (some ⟨b, 0, none⟩) ∧ s6 = .int .i64 p ∧ Hid (Jd w wx a b k0 k1 v))
  case first =>
    go_region_held3 (fun w' => w'.cell? ⟨w.heap.size, 0, none⟩ = some (Value.int .u64 (k0.toNat : Int)) ∧ w'.cell? ⟨w.heap.size, 1, none⟩ = some (Value.int .u64 (k1.toNat : Int)) ∧ w'.cell? ⟨w.heap.size, 2, none⟩ = some (Value.string s) ∧ w'.cell? ⟨w.heap.size, 3, none⟩ = some (Value.int .u64 (v.a.toNat : Int)) ∧ w'.cell? ⟨w.heap.size, 4, none⟩ = some (Value.int .u64 (v.b.toNat : Int)) ∧ w'.cell? ⟨w.heap.size, 5, none⟩ = some (Value.int .u64 (v.c.toNat : Int)) ∧ w'.cell? ⟨w.heap.size, 6, none⟩ = some (Value.int .u64 (v.d.toNat : Int)) ∧ w'.cell? ⟨w.heap.size, 7, none⟩ = some (Value.int .i64 p)) (go_keep) (fail)
    · go_wp2_with fail
      go_meet
      exact ⟨_, _, rfl, rfl, rfl, rfl, ⟨(blk2q W0 _ _).1, (blk2q W0 _ _).2, (BB.out.trans ((below2q W0 _ _).mono BB.out.size)).drew⟩⟩
    · go_wp2_with fail
      go_meet
      exact ⟨_, _, rfl, rfl, rfl, rfl, ⟨(blk2q W0 _ _).2, (blk2q W0 _ _).1, (BB.out.trans ((below2q W0 _ _).mono BB.out.size)).drew⟩⟩
  obtain ⟨a, b, rfl, rfl, rfl, rfl, J⟩ := hcut
  clear c0 c1 c2 c3 c4 c5 c6 c7 n0 HD BB
  have H8 := hide fun W => hash_any k0 k1 s (by omega) W
  rw [sip_ref] at H8
  have H9 := hide fun W => rhash_any k0 k1 s hs W
  have H10 := hide fun W => round_any v W
  have H11 := hide fun W => rround_any v W
  have H7 := hide fun W => awake_any6 W
  have he := hide fun W => eq_words4 v.round.list rfl W
  generalize qc v.round.list = VR at *
  by_cases hp : p < 1 ∨ 2147483647 < p
  · have HP := hide fun W => part_bad k0 k1 s p hp W
    generalize refM k0 k1 s.data.toList = R at *
    generalize wc = W1 at *
    have HKA := hide J.out.ka
    go_upto_region 3 with (first | refine wpList_loadA AK rfl _ rfl _ rfl (qc [k0, k1]) rfl 24 HKA.out ?_ | (go_at_call 6; refine (HP.out _).mono ?_; rintro e w2 ⟨rfl, b2⟩; have J2 := hide (J.out.next b2); clear b2))
    obtain ⟨I, hne, F, i0, h0, hJ, hcl⟩ : ∃ (I : Type) (_ : Nonempty I) (F : I → World) (i0 : I), w2.drew = F i0 ∧ Hid (∀ i, Jd w (F i) a b k0 k1 v) ∧ Hid (∀ i W', Below (F i).heap.size (F i) W' → ∃ j, W' = F j) :=
      ⟨{W : World // Jd w W a b k0 k1 v}, ⟨⟨_, J2.out⟩⟩, Subtype.val, ⟨w2.drew, J2.out.ka, J2.out.vb, J2.out.below.drew⟩, rfl, fun i => i.2, fun i W' b => ⟨⟨W', i.2.next b⟩, rfl⟩⟩
    have c0 : ∀ i, (F i).cell? ⟨a, 0, none⟩ = some (.int .u64 (k0.toNat : Int)) := fun i => (hJ.out i).c0
    have c1 : ∀ i, (F i).cell? ⟨a, 1, none⟩ = some (.int .u64 (k1.toNat : Int)) := fun i => (hJ.out i).c1
    have d0 : ∀ i, (F i).cell? ⟨b, 0, none⟩ = some (.int .u64 (v.a.toNat : Int)) := fun i => cell_of_row _ _ 0 _ _ _ (hJ.out i).vb
    have d1 : ∀ i, (F i).cell? ⟨b, 1, none⟩ = some (.int .u64 (v.b.toNat : Int)) := fun i => cell_of_row _ _ 1 _ _ _ (hJ.out i).vb
    have d2 : ∀ i, (F i).cell? ⟨b, 2, none⟩ = some (.int .u64 (v.c.toNat : Int)) := fun i => cell_of_row _ _ 2 _ _ _ (hJ.out i).vb
    have d3 : ∀ i, (F i).cell? ⟨b, 3, none⟩ = some (.int .u64 (v.d.toNat : Int)) := fun i => cell_of_row _ _ 3 _ _ _ (hJ.out i).vb
    refine wp_region_class_lit (by kernel_rfl) (by kernel_rfl) i0 h0 ?_
    repeat (first | (go_big_quiet_want; refine quiet_neq 25 _ _ _ (by rfl) VR VR (by rfl) (by rfl) eqgq true he.out ?_; go_big_quiet_on; simp only [Act.put, List.setIfInBounds_toArray, List.set_cons_succ, List.set_cons_zero]) | go_big_quiet_step (first | (go_at_call 7; exact class_of hcl.out (H7.out _)) | (go_at_call 8; exact class_of hcl.out (H8.out _)) | (go_at_call 9; exact class_of hcl.out (H9.out _)) | (go_at_call 10; exact class_of hcl.out (H10.out _)) | (go_at_call 11; exact class_of hcl.out (H11.out _))))
    refine wpQuiet_nil ?_
    rintro _ ⟨iq, rfl⟩
    by_cases h1 : p < 1
    · go_wp2
      go_ret
      exact ⟨rfl, (hJ.out iq).below⟩
    · have h2 : 2147483647 < p := by omega
      go_wp2
      go_ret
      exact ⟨rfl, (hJ.out iq).below⟩
  · have HP := hide fun W => part_good k0 k1 s (by omega) p (by omega) (by omega) W
    rw [sip_ref] at HP
    generalize refM k0 k1 s.data.toList = R at *
    have n1 : ¬ p < 1 := by omega
    have n2 : ¬ 2147483647 < p := by omega
    have n3 : p ≠ 0 := by omega
    have hw : IntKind.u64.wrap p = p := wrapu _ (by omega) (by omega)
    have hm0 := Int.emod_nonneg (R.toNat : Int) n3
    have hm1 := Int.emod_lt_of_pos (R.toNat : Int) (show 0 < p by omega)
    have hw2 : IntKind.u64.wrap ((R.toNat : Int) % p) = (R.toNat : Int) % p := wrapu _ (by omega) (by omega)
    generalize wc = W1 at *
    have HKA := hide J.out.ka
    go_upto_region 3 with (first | refine wpList_loadA AK rfl _ rfl _ rfl (qc [k0, k1]) rfl 24 HKA.out ?_ | (go_at_call 6; refine (HP.out _).mono ?_; rintro e w2 ⟨rfl, b2⟩; have J2 := hide (J.out.next b2); clear b2))
    obtain ⟨I, hne, F, i0, h0, hJ, hcl⟩ : ∃ (I : Type) (_ : Nonempty I) (F : I → World) (i0 : I), w2.drew = F i0 ∧ Hid (∀ i, Jd w (F i) a b k0 k1 v) ∧ Hid (∀ i W', Below (F i).heap.size (F i) W' → ∃ j, W' = F j) :=
      ⟨{W : World // Jd w W a b k0 k1 v}, ⟨⟨_, J2.out⟩⟩, Subtype.val, ⟨w2.drew, J2.out.ka, J2.out.vb, J2.out.below.drew⟩, rfl, fun i => i.2, fun i W' b => ⟨⟨W', i.2.next b⟩, rfl⟩⟩
    have c0 : ∀ i, (F i).cell? ⟨a, 0, none⟩ = some (.int .u64 (k0.toNat : Int)) := fun i => (hJ.out i).c0
    have c1 : ∀ i, (F i).cell? ⟨a, 1, none⟩ = some (.int .u64 (k1.toNat : Int)) := fun i => (hJ.out i).c1
    have d0 : ∀ i, (F i).cell? ⟨b, 0, none⟩ = some (.int .u64 (v.a.toNat : Int)) := fun i => cell_of_row _ _ 0 _ _ _ (hJ.out i).vb
    have d1 : ∀ i, (F i).cell? ⟨b, 1, none⟩ = some (.int .u64 (v.b.toNat : Int)) := fun i => cell_of_row _ _ 1 _ _ _ (hJ.out i).vb
    have d2 : ∀ i, (F i).cell? ⟨b, 2, none⟩ = some (.int .u64 (v.c.toNat : Int)) := fun i => cell_of_row _ _ 2 _ _ _ (hJ.out i).vb
    have d3 : ∀ i, (F i).cell? ⟨b, 3, none⟩ = some (.int .u64 (v.d.toNat : Int)) := fun i => cell_of_row _ _ 3 _ _ _ (hJ.out i).vb
    refine wp_region_class_lit (by kernel_rfl) (by kernel_rfl) i0 h0 ?_
    repeat (first | (go_big_quiet_want; refine quiet_neq 25 _ _ _ (by rfl) VR VR (by rfl) (by rfl) eqgq true he.out ?_; go_big_quiet_on; simp only [Act.put, List.setIfInBounds_toArray, List.set_cons_succ, List.set_cons_zero]) | go_big_quiet_step (first | (go_at_call 7; exact class_of hcl.out (H7.out _)) | (go_at_call 8; exact class_of hcl.out (H8.out _)) | (go_at_call 9; exact class_of hcl.out (H9.out _)) | (go_at_call 10; exact class_of hcl.out (H10.out _)) | (go_at_call 11; exact class_of hcl.out (H11.out _))))
    refine wpQuiet_nil ?_
    rintro _ ⟨iq, rfl⟩
    have JQ := hide (hJ.out iq)
    have e0 := c0 iq
    have e1 := c1 iq
    clear c0 c1 d0 d1 d2 d3 hcl h0 hJ
    generalize F iq = W3 at *
    go_wp2_with (go_at_call 9; refine (H9.out _).mono ?_; rintro e w4 ⟨rfl, b4⟩; have J4 := hide (JQ.out.next b4); clear b4)
    go_ret
    exact ⟨rfl, J4.out.below⟩
end
end Go.Proofs.Ytpjpnkohagcegaa
