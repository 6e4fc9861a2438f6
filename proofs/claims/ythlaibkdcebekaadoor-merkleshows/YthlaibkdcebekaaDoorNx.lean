/- The contract of Read. -/
import Derived.Test.YthlaibkdcebekaaDoorNge
namespace Go.Proofs.YthlaibkdcebekaaDoor
open Go.RowKit
open Go.Deep
theorem read_any {B : World} {gt n : Nat} (hK : Kg B) (hn : n ≤ 65536) : ∀ k p, k ≤ 17 → (p + 1) * 2 ^ k ≤ 131072 → RR B gt n k p
  | 0, p, _, hp => read_step 0 p (by omega) (by omega) (fun k' e => by omega)
  | k + 1, p, hk, hp => by
    have e1 : (p + 1) * 2 ^ (k + 1) = (2 * p + 1) * 2 ^ k + 2 ^ k := by
      rw [Nat.pow_succ', ← Nat.mul_assoc, show (p + 1) * 2 = 2 * p + 1 + 1 by omega, Nat.add_mul, Nat.one_mul]
    have e2 : (2 * p + 1 + 1) * 2 ^ k = (2 * p + 1) * 2 ^ k + 2 ^ k := by rw [Nat.add_mul, Nat.one_mul]
    have hpw : 0 < 2 ^ k := Nat.pos_of_ne_zero (by simp)
    have hle : (2 * p + 1) ≤ (2 * p + 1) * 2 ^ k := Nat.le_mul_of_pos_right _ hpw
    exact read_step (k + 1) p hk (by omega) (fun k' e => by
      obtain rfl : k = k' := by omega
      exact readParts_any hK hn k (2 * p) (by omega) (by omega) (read_any hK hn k (2 * p) (by omega) (by omega)) (read_any hK hn k (2 * p + 1) (by omega) (by omega)))
theorem resA4 {t : TypeId} {n : Nat} {z : Array Value} (A : Arr t n z) {fn : Func} {p u v s : Tmp} (hf : fn.results = #[.cell p t, .tmp u, .tmp v, .tmp s]) (tmps : Array Value) (w : World) (g : Nat) (t' : TypeId) (c : Array Value) (hn : c.size = n)
    (hp : tmps.getD p undef = .pointer (some ⟨g, 0, none⟩)) (hg : w.heap[g]? = some (.cells c t' (0, 0))) (x : Value) (hx : tmps.getD u undef = x) (y : Value) (hy : tmps.getD v undef = y) (r : Value) (hr : tmps.getD s undef = r) : (results fn tmps).run Tryd.prog w = .ok (.tuple #[.agg c, x, y, r]) w := by
  subst hx hy hr
  have hp' : tmps[p]?.getD undef = .pointer (some ⟨g, 0, none⟩) := by simpa using hp
  rcases A.und with ⟨m, e, hd⟩ | ⟨fs, hd⟩ <;> simp [results, hf, hp', asAddr, run_loadVar_row w g t' t c (0, 0) _ hg hd rfl (by rw [A.info, hn])]
/-- A store of a whole array, as one step of a region that draws. -/
theorem stepStoreA {t : TypeId} {n : Nat} {z : Array Value} {w : World} {ops : Array Oper} {o : Oper} {a : Act} {K : Act → World → Prop} {Q : Exit → Act → World → Prop} {E0 : Prop} (A : Arr t n z) (hgd : o.guard = none) (x y : Operand) (ho : o.op = .store t x y) (g : Nat) (c : Array Value) (hn : c.size = n) (h1 : c.all (·.oneCell') = true) (hx : a.eval x = .pointer (some ⟨g, 0, none⟩)) (hy : a.eval y = .agg c)
    (c0 : Array Value) (hn0 : c0.size = n) (t' : TypeId) (hg : w.heap[g]? = some (.cells c0 t' (0, 0))) (h : K (a.put o.dst undef) (w.setRow g c)) : if Region.wanted o (yielded ops a.tmps) = true then Oper.wp Tryd.prog o a w K Q else E0 := by
  have hw : Region.wanted o (yielded ops a.tmps) = true := by simp [Region.wanted, hgd]
  rw [if_pos hw]
  exact wp_store_row t x y ho g c hx hy t' c0 hg (by rw [A.info, hn]) (by rw [hn, hn0]) h1 h
theorem dp_16 {n : Nat} (h : n ≤ 65536) : dp n ≤ 16 := by
  unfold dp
  split
  · omega
  · exact bl_le_of _ 16 (by omega)
/-- What a whole tree in parts reads as. -/
def rdT (c : Int) (bs : List Bool) (is : List (List UInt8)) : Option Rd :=
  if 1 ≤ c ∧ c ≤ 65536 then
    match rd c.toNat (dp c.toNat) 0 bs is with
    | none => none
    | some r => if r.bits = [] ∧ r.ids = [] then some r else none
  else none
/-- What Read answers. -/
def RT (w' : World) : Option Rd → Ending → Prop
  | none, e => e = .returned (.tuple #[.agg (hc zeros), .slice none 0 0, .slice none 0 0, .int .i64 61])
  | some r, e => ∃ vp vm, e = .returned (.tuple #[.agg (hc r.id), vp, vm, .int .i64 0]) ∧ r.id.length = 32 ∧ OI w' vp r.places ∧ OH 39 w' vm r.meant
section
set_option linter.unusedSimpArgs false
set_option maxRecDepth 10000
set_option maxHeartbeats 4000000
theorem mread_any (c : Int) (vb vi : Value) (bs : List Bool) (is : List (List UInt8)) (w : World) (hb : LB w vb bs) (hi : LH w vi is) (hK : Kg w) : Calls Tryd.prog 12 #[.agg #[.int .i64 c, vb, vi]] w fun e w' => Below w.heap.size w w' ∧ RT w' (rdT c bs is) e := by
  obtain ⟨ab, cb, rfl, _⟩ := hb.form
  obtain ⟨ai, ci, rfl⟩ := hi.form
  have B1 : Hid (Below w.heap.size w (w.alloc (.cells #[.int .i64 c, .slice ab bs.length cb, .slice ai is.length ci] 25))) := (Below.refl _ _).alloc (Nat.le_refl _) _
  have B2 : Hid (Below w.heap.size w ((w.alloc (.cells #[.int .i64 c, .slice ab bs.length cb, .slice ai is.length ci] 25)).alloc (.cells (hc zeros) 39))) := B1.out.alloc B1.out.size _
  have hs : (w.alloc (.cells #[.int .i64 c, .slice ab bs.length cb, .slice ai is.length ci] 25)).heap.size = w.heap.size + 1 := by simp
  have R2 := hide (heap_alloc_last (w.alloc (.cells #[.int .i64 c, .slice ab bs.length cb, .slice ai is.length ci] 25)) (.cells (hc zeros) 39))
  rw [hs] at R2
  have Q2 : Hid (((w.alloc (.cells #[.int .i64 c, .slice ab bs.length cb, .slice ai is.length ci] 25)).alloc (.cells (hc zeros) 39)).rowIs w.heap.size 25 3 (fun i => if i = 0 then .int .i64 c else if i = 1 then .slice ab bs.length cb else .slice ai is.length ci)) :=
    row_of (n := 3) rfl ((Below.heap_alloc _ _ _ (by omega)).trans (heap_alloc_last w _)) (fun i hi => by
      have : i = 0 ∨ i = 1 ∨ i = 2 := by omega
      rcases this with rfl | rfl | rfl <;> rfl)
  have HI := hide (And.intro hb hi)
  have KW : Hid (∀ W, Below w.heap.size w W → Kg W) := fun W h => hK.next h
  generalize hRD : rdT c bs is = RD at *
  have HRD := hide hRD
  have HG := hide (show w.heap.size ≤ w.heap.size + 1 by omega)
  clear hRD hb hi hK hs
  go_enter Tryd.func12, Tryd.ntmps12
  go_upto_region 1 with (first | refine wpList_allocA A25 rfl rfl ?_)
  generalize (w.alloc (.cells #[.int .i64 c, .slice ab bs.length cb, .slice ai is.length ci] 25)).alloc (.cells (hc zeros) 39) = W2 at *
  generalize w.heap.size + 1 = gr at *
  have x0 := World.rowIs.cell Q2.out (i := 0) (by decide)
  have x1 := World.rowIs.cell Q2.out (i := 1) (by decide)
  have x2 := World.rowIs.cell Q2.out (i := 2) (by decide)
  simp at x0 x1 x2
  by_cases hc1 : 1 ≤ c ∧ c ≤ 65536
  · obtain ⟨h1, h2⟩ := hc1
    obtain ⟨n, rfl⟩ : ∃ n : Nat, c = (n : Int) := ⟨c.toNat, by omega⟩
    have hn : n ≤ 65536 := by omega
    have h3 : ¬ (n : Int) < 1 := by omega
    have h4 : ¬ (65536 : Int) < (n : Int) := by omega
    have HRD2 := HRD
    unfold rdT at HRD2
    rw [if_pos ⟨h1, h2⟩, show ((n : Nat) : Int).toNat = n from rfl] at HRD2
    clear HRD
    have HD := hide fun W => depth_any n (by omega) W
    have hd := dp_16 hn
    have hp2 : 2 ^ dp n ≤ 2 ^ 16 := Nat.pow_le_pow_right (by decide) hd
    have HRA := hide fun gt W (hW : Kg W) => read_any (B := W) (gt := gt) hW hn (dp n) 0 (by omega) (by omega)
    have HP2 := hide (show 0 + 2 ^ dp n ≤ 1000000 by omega)
    go_upto_region 3 with fail
    have b3 : Below W2.heap.size W2 (W2.alloc (.cells #[.int .i64 (n : Int), .slice ab bs.length cb, .slice ai is.length ci, .slice none 0 0, .slice none 0 0] 65)) := (Below.refl _ _).alloc (Nat.le_refl _) _
    have J3 : Hid (Rr W2 (W2.alloc (.cells #[.int .i64 (n : Int), .slice ab bs.length cb, .slice ai is.length ci, .slice none 0 0, .slice none 0 0] 65)) W2.heap.size n (.slice ab bs.length cb) (.slice ai is.length ci) (.slice none 0 0) (.slice none 0 0) bs is [] []) :=
      ⟨b3, Nat.le_refl _, row_of (n := 5) rfl (heap_alloc_last _ _) (fun i hi => by
        have : i = 0 ∨ i = 1 ∨ i = 2 ∨ i = 3 ∨ i = 4 := by omega
        rcases this with rfl | rfl | rfl | rfl | rfl <;> rfl), HI.out.1.below B2.out, HI.out.2.below B2.out, OI.nil _, (fun g hg => by cases hg), OH.nil _ _, (fun g hg => by cases hg)⟩
    have HC := hide (HRA.out W2.heap.size W2 (KW.out _ B2.out) _ _ _ _ _ _ _ _ _ J3.out HP2.out HP2.out)
    have X0 := hide (World.rowIs.of_block Q2.out (b3.block _ (World.rowIs.lt Q2.out)))
    have HLT := hide (lt_heap R2.out)
    clear h1 h2 hn hd hp2 HRA HP2 b3
    go_upto_region 4 with fail
    generalize W2.alloc (.cells #[.int .i64 (n : Int), .slice ab bs.length cb, .slice ai is.length ci, .slice none 0 0, .slice none 0 0] 65) = W3 at *
    have z0 := World.rowIs.cell X0.out (i := 0) (by decide)
    simp at z0
    clear x0 x1 x2
    cases hr : rd n (dp n) 0 bs is with
    | none =>
      rw [hr] at HRD2 HC
      have HR : Hid (RD = none) := HRD2.out.symm
      clear hr HRD2
      go_upto_region 6 with (first | (go_at_call 17; refine (HD.out _).mono ?_; rintro e w4 ⟨rfl, hww⟩; subst w4) | (go_at_call 24; refine HC.out.mono ?_; rintro e w4 ⟨vp4, vm4, o4, be4, ra⟩; have ra2 : e = .returned (.tuple #[.agg (hc zeros), .bool false]) := ra; subst ra2; clear ra; have B4 := hide (below_next B2.out be4); have R4 := hide ((be4.block _ HLT.out).trans R2.out); clear o4 be4) | refine wpList_allocA A25 rfl rfl ?_ | refine wpList_store_newA A25 rfl _ _ rfl _ rfl (hc zeros) (by rw [hc_size, zeros_len]) (hc_one _) rfl rfl ?_)
      have b5 : Below w4.heap.size w4 (w4.alloc (.cells (hc zeros) 39)) := (Below.refl _ _).alloc (Nat.le_refl _) _
      have B5 := hide (below_next B4.out b5)
      have R5 := hide ((b5.block _ (lt_heap R4.out)).trans R4.out)
      clear b5
      generalize w4.alloc (.cells (hc zeros) 39) = W5 at *
      go_wp2_with (first | refine wpList_buildA A25 rfl rfl ?_ | refine wpList_storeA A25 rfl _ _ rfl gr (hc zeros) (by rw [hc_size, zeros_len]) (hc_one _) rfl rfl (hc zeros) (by rw [hc_size, zeros_len]) 39 R5.out ?_)
      exact bodyPost_ret (v := .tuple #[.agg (hc zeros), .slice none 0 0, .slice none 0 0, .int .i64 61]) (resA4 A25 Tryd.results12 _ _ gr 39 (hc zeros) (by rw [hc_size, zeros_len]) rfl (setRow_heap _ _ _ _ _ _ R5.out) _ (by rfl) _ (by rfl) _ (by rfl)) rfl ⟨below_setRow B5.out HG.out _, by rw [HR.out]; exact rfl⟩
    | some r =>
      rw [hr] at HRD2 HC
      clear hr
      obtain ⟨A, bs4, is4, ps4, ms4⟩ := r
      simp only at HRD2
      go_upto_region 5 with (first | (go_at_call 17; refine (HD.out _).mono ?_; rintro e w4 ⟨rfl, hww⟩; subst w4) | (go_at_call 24; refine HC.out.mono ?_; rintro e w4 ⟨vp4, vm4, o4, be4, ra⟩; obtain ⟨ra2, ra3, vb4, vi4, j4⟩ := ra; simp only at ra2 ra3 j4; rw [List.nil_append, List.nil_append] at j4; subst ra2; have LA := hide ra3; have J4 := hide j4; have B4 := hide (below_next B2.out be4); have R4 := hide ((be4.block _ HLT.out).trans R2.out); clear o4 be4 ra3 j4) | refine wpList_allocA A25 rfl rfl ?_ | refine wpList_store_newA A25 rfl _ _ rfl _ rfl (hc A) (by rw [hc_size, LA.out]) (hc_one _) rfl rfl ?_)
      have b5 : Below w4.heap.size w4 (w4.alloc (.cells (hc A) 39)) := (Below.refl _ _).alloc (Nat.le_refl _) _
      have B5 := hide (below_next B4.out b5)
      have R5 := hide ((b5.block _ (lt_heap R4.out)).trans R4.out)
      have J5 := hide (J4.out.next b5)
      have A5 := hide (heap_alloc_last w4 (.cells (hc A) 39))
      have NE : Hid (gr ≠ w4.heap.size) := fun e => by have := lt_heap R4.out; omega
      clear b5 J4 R4 B4 J3 HC X0 z0
      generalize w4.alloc (.cells (hc A) 39) = W5 at *
      generalize w4.heap.size = ga at *
      obtain ⟨ab4, cb4, rfl, _⟩ := J5.out.bits.form
      obtain ⟨ai4, ci4, rfl⟩ := J5.out.ids.form
      obtain ⟨ap4, cp4, rfl⟩ := J5.out.pl.form
      obtain ⟨am4, cm4, rfl⟩ := J5.out.mt.form
      have y1 := World.rowIs.cell J5.out.row (i := 1) (by decide)
      have y2 := World.rowIs.cell J5.out.row (i := 2) (by decide)
      rw [show rc5 n (.slice ab4 bs4.length cb4) (.slice ai4 is4.length ci4) (.slice ap4 ps4.length cp4) (.slice am4 ms4.length cm4) 1 = .slice ab4 bs4.length cb4 from rfl] at y1
      rw [show rc5 n (.slice ab4 bs4.length cb4) (.slice ai4 is4.length ci4) (.slice ap4 ps4.length cp4) (.slice am4 ms4.length cm4) 2 = .slice ai4 is4.length ci4 from rfl] at y2
      by_cases hno : bs4 = [] ∧ is4 = []
      · rw [if_pos hno] at HRD2
        obtain ⟨rfl, rfl⟩ := hno
        have HR : Hid (RD = _) := HRD2.out.symm
        have y3 := World.rowIs.cell J5.out.row (i := 3) (by decide)
        have y4 := World.rowIs.cell J5.out.row (i := 4) (by decide)
        rw [show rc5 n (.slice ab4 ([] : List Bool).length cb4) (.slice ai4 ([] : List (List UInt8)).length ci4) (.slice ap4 ps4.length cp4) (.slice am4 ms4.length cm4) 3 = .slice ap4 ps4.length cp4 from rfl] at y3
        rw [show rc5 n (.slice ab4 ([] : List Bool).length cb4) (.slice ai4 ([] : List (List UInt8)).length ci4) (.slice ap4 ps4.length cp4) (.slice am4 ms4.length cm4) 4 = .slice am4 ms4.length cm4 from rfl] at y4
        rw [List.length_nil] at y1 y2
        go_upto_region 7 with fail
        clear y1 y2 y3 y4
        have LC : Hid (∀ W : World, (W.heap[ga]? = some (.cells (hc A) 39 (0, 0)) ∧ W.rowIs W2.heap.size 65 5 (rc5 n (.slice ab4 ([] : List Bool).length cb4) (.slice ai4 ([] : List (List UInt8)).length ci4) (.slice ap4 ps4.length cp4) (.slice am4 ms4.length cm4))) → W.cell? ⟨W2.heap.size, 3, none⟩ = some (.slice ap4 ps4.length cp4) ∧ W.cell? ⟨W2.heap.size, 4, none⟩ = some (.slice am4 ms4.length cm4)) := fun W h =>
          ⟨(World.rowIs.cell h.2 (i := 3) (by decide)).trans rfl, (World.rowIs.cell h.2 (i := 4) (by decide)).trans rfl⟩
        refine wp_region_held_drew (S := fun W => W.heap[ga]? = some (.cells (hc A) 39 (0, 0)) ∧ W.rowIs W2.heap.size 65 5 (rc5 n (.slice ab4 ([] : List Bool).length cb4) (.slice ai4 ([] : List (List UInt8)).length ci4) (.slice ap4 ps4.length cp4) (.slice am4 ms4.length cm4))) (by kernel_rfl) ⟨A5.out, J5.out.row⟩ (fun hH => ?_)
        refine wpAnyH_take (i := 0) (v := .agg (hc A)) rfl (by kernel_rfl) (by kernel_rfl) (by kernel_rfl) (fun _ _ _ h => h) (yl_load (by rfl) _ (by rfl) _ (hc A) (by rfl) (fun W hS => ld_row A25 (by rw [hc_size, LA.out]) hS.1)) hH ?_
        change wpAnyH _ _ _ _ _ _ _ (Act.put _ (some 47) _) _
        simp only [Act.put, List.setIfInBounds_toArray, List.set_cons_zero, List.set_cons_succ]
        refine wpAnyH_take (i := 1) (v := .pointer (some ⟨W2.heap.size, 3, none⟩)) rfl (by kernel_rfl) (by kernel_rfl) (by kernel_rfl) (fun _ _ _ h => h) (.inl ⟨by rfl, fun W _ => by go_simp⟩) hH ?_
        change wpAnyH _ _ _ _ _ _ _ (Act.put _ (some 48) _) _
        simp only [Act.put, List.setIfInBounds_toArray, List.set_cons_zero, List.set_cons_succ]
        refine wpAnyH_take (i := 2) (v := .slice ap4 ps4.length cp4) rfl (by kernel_rfl) (by kernel_rfl) (by kernel_rfl) (fun _ _ _ h => h) (.inl ⟨by rfl, fun W hS => by have c4 := (LC.out W hS).1; go_simp⟩) hH ?_
        change wpAnyH _ _ _ _ _ _ _ (Act.put _ (some 49) _) _
        simp only [Act.put, List.setIfInBounds_toArray, List.set_cons_zero, List.set_cons_succ]
        refine wpAnyH_take (i := 3) (v := .pointer (some ⟨W2.heap.size, 4, none⟩)) rfl (by kernel_rfl) (by kernel_rfl) (by kernel_rfl) (fun _ _ _ h => h) (.inl ⟨by rfl, fun W _ => by go_simp⟩) hH ?_
        change wpAnyH _ _ _ _ _ _ _ (Act.put _ (some 50) _) _
        simp only [Act.put, List.setIfInBounds_toArray, List.set_cons_zero, List.set_cons_succ]
        refine wpAnyH_take (i := 4) (v := .slice am4 ms4.length cm4) rfl (by kernel_rfl) (by kernel_rfl) (by kernel_rfl) (fun _ _ _ h => h) (.inl ⟨by rfl, fun W hS => by have c4 := (LC.out W hS).2; go_simp⟩) hH ?_
        change wpAnyH _ _ _ _ _ _ _ (Act.put _ (some 51) _) _
        simp only [Act.put, List.setIfInBounds_toArray, List.set_cons_zero, List.set_cons_succ]
        have SZ : Hid (W5.drew.setRow gr (hc A) |>.heap[ga]? = some (.cells (hc A) 39 (0, 0))) := (setRow_other _ _ _ _ (Ne.symm NE.out)).trans A5.out
        have ROW : Hid ((W5.drew.setRow gr (hc A)).rowIs W2.heap.size 65 5 (rc5 n (.slice ab4 ([] : List Bool).length cb4) (.slice ai4 ([] : List (List UInt8)).length ci4) (.slice ap4 ps4.length cp4) (.slice am4 ms4.length cm4))) :=
          World.rowIs.of_block J5.out.row (setRow_other _ _ _ _ (by have := HLT.out; omega))
        have PZ : Hid (OI (W5.drew.setRow gr (hc A)) (.slice ap4 ps4.length cp4) ps4) := J5.out.pl.of_block (fun g hg => setRow_other _ _ _ _ (by have := J5.out.pfar g hg; have := HLT.out; omega))
        have MZ : Hid (OH 39 (W5.drew.setRow gr (hc A)) (.slice am4 ms4.length cm4) ms4) := J5.out.mt.of_block (fun g hg => setRow_other _ _ _ _ (by have := J5.out.mfar g hg; have := HLT.out; omega))
        have BZ := hide (below_setRow B5.out.drew HG.out (hc A))
        have RZ : Hid ((W5.drew.setRow gr (hc A)).heap[gr]? = some (.cells (hc A) 39 (0, 0))) := setRow_heap _ _ _ _ _ _ (show W5.drew.heap[gr]? = _ from R5.out)
        refine wpAnyH_ready (rs := [5]) (by kernel_rfl) (by simp) (AllReadyH.cons rfl (fun K1 hK1 => ?_) AllReadyH.nil)
        refine stepStoreA A25 (by rfl) _ _ (by rfl) gr (hc A) (by rw [hc_size, LA.out]) (hc_one _) (by rfl) (by rfl) (hc zeros) (by rw [hc_size, zeros_len]) 39 R5.out ?_
        refine hK1.out _ _ ⟨SZ.out, ROW.out⟩ (fun hH => ?_)
        clear hK1
        generalize W5.drew.setRow gr (hc A) = W6 at *
        refine wpAnyH_take (i := 6) (v := .slice ap4 ps4.length cp4) rfl (by kernel_rfl) (by kernel_rfl) (by kernel_rfl) (fun _ _ _ h => h) (.inl ⟨by rfl, fun W _ => by go_simp⟩) hH ?_
        change wpAnyH _ _ _ _ _ _ _ (Act.put _ (some 3) _) _
        simp only [Act.put, List.setIfInBounds_toArray, List.set_cons_zero, List.set_cons_succ]
        refine wpAnyH_take (i := 7) (v := .slice am4 ms4.length cm4) rfl (by kernel_rfl) (by kernel_rfl) (by kernel_rfl) (fun _ _ _ h => h) (.inl ⟨by rfl, fun W _ => by go_simp⟩) hH ?_
        change wpAnyH _ _ _ _ _ _ _ (Act.put _ (some 4) _) _
        simp only [Act.put, List.setIfInBounds_toArray, List.set_cons_zero, List.set_cons_succ]
        refine wpAnyH_take (i := 8) (v := .int .i64 0) rfl (by kernel_rfl) (by kernel_rfl) (by kernel_rfl) (fun _ _ _ h => h) (.inl ⟨by rfl, fun W _ => by go_simp⟩) hH ?_
        change wpAnyH _ _ _ _ _ _ _ (Act.put _ (some 5) _) _
        simp only [Act.put, List.setIfInBounds_toArray, List.set_cons_zero, List.set_cons_succ]
        refine wpAnyH_done (by kernel_rfl) ?_ _
        go_wp2
        exact bodyPost_ret (v := .tuple #[.agg (hc A), .slice ap4 ps4.length cp4, .slice am4 ms4.length cm4, .int .i64 0]) (resA4 A25 Tryd.results12 _ _ gr 39 (hc A) (by rw [hc_size, LA.out]) rfl RZ.out _ (by rfl) _ (by rfl) _ (by rfl)) rfl ⟨BZ.out, by rw [HR.out]; exact ⟨_, _, rfl, LA.out, PZ.out, MZ.out⟩⟩
      · rw [if_neg hno] at HRD2
        have HR : Hid (RD = none) := HRD2.out.symm
        have hcs : (0 : Int) < (bs4.length : Int) ∨ (¬ (0 : Int) < (bs4.length : Int) ∧ (0 : Int) < (is4.length : Int)) := by
          rcases bs4 with _ | ⟨b, bs4⟩
          · right
            rcases is4 with _ | ⟨x, is4⟩
            · exact absurd ⟨rfl, rfl⟩ hno
            · simp only [List.length_nil, List.length_cons]
              omega
          · left
            simp only [List.length_cons]
            omega
        clear hno HRD2
        generalize bs4.length = lb4 at *
        generalize is4.length = li4 at *
        rcases hcs with h5 | ⟨h5, h6⟩
        all_goals
          go_wp2_with (first | refine wpList_buildA A25 rfl rfl ?_ | refine wpList_storeA A25 rfl _ _ rfl gr (hc zeros) (by rw [hc_size, zeros_len]) (hc_one _) rfl rfl (hc zeros) (by rw [hc_size, zeros_len]) 39 R5.out ?_)
          exact bodyPost_ret (v := .tuple #[.agg (hc zeros), .slice none 0 0, .slice none 0 0, .int .i64 61]) (resA4 A25 Tryd.results12 _ _ gr 39 (hc zeros) (by rw [hc_size, zeros_len]) rfl (setRow_heap _ _ _ _ _ _ R5.out) _ (by rfl) _ (by rfl) _ (by rfl)) rfl ⟨below_setRow B5.out HG.out _, by rw [HR.out]; exact rfl⟩
  · have HR : Hid (RD = none) := by
      show _ = _
      rw [← HRD.out, rdT, if_neg hc1]
    have hcs : c < 1 ∨ (¬ c < 1 ∧ 65536 < c) := by omega
    clear hc1 HRD
    rcases hcs with h1 | ⟨h1, h2⟩
    all_goals
      go_wp2_with (first | refine wpList_buildA A25 rfl rfl ?_ | refine wpList_storeA A25 rfl _ _ rfl gr (hc zeros) (by rw [hc_size, zeros_len]) (hc_one _) rfl rfl (hc zeros) (by rw [hc_size, zeros_len]) 39 R2.out ?_)
      exact bodyPost_ret (v := .tuple #[.agg (hc zeros), .slice none 0 0, .slice none 0 0, .int .i64 61]) (resA4 A25 Tryd.results12 _ _ gr 39 (hc zeros) (by rw [hc_size, zeros_len]) rfl (setRow_heap _ _ _ _ _ _ R2.out) _ (by rfl) _ (by rfl) _ (by rfl)) rfl ⟨below_setRow B2.out HG.out _, by rw [HR.out]; exact rfl⟩
end
end Go.Proofs.YthlaibkdcebekaaDoor
