/- The contract of the document's Read. -/
import Derived.Test.YthlaibkdcebekaaDoorNzd
import Derived.Test.YthlaibkdcebekaaDoorNx
namespace Go.Proofs.YthlaibkdcebekaaDoor
open Go.RowKit
open Go.Deep
section
variable {t : TypeId} {n : Nat} {z : Array Value} {w : World} {ops : Array Oper} {o : Oper} {a : Act} {K : Act → World → Prop} {Q : Exit → Act → World → Prop} {E0 : Prop}
theorem stepAllocA (A : Arr t n z) (hgd : o.guard = none) (ho : o.op = .alloc t) (h : K (a.put o.dst (.pointer (some ⟨w.heap.size, 0, none⟩))) (w.alloc (.cells z t))) : if Region.wanted o (yielded ops a.tmps) = true then Oper.wp Tryd.prog o a w K Q else E0 := by
  have hw : Region.wanted o (yielded ops a.tmps) = true := by simp [Region.wanted, hgd]
  rw [if_pos hw]
  unfold Oper.wp execOp
  simp only [ho, A.alloc, Sem.run_bind, Result.andThen_ok, Sem.run_pure]
  exact h
end
def z3p : Array Value := #[.int .i64 0, .slice none 0 0, .slice none 0 0]
theorem A3 : Arr 33 3 z3p := ⟨.inr ⟨_, Tryd.underlying33⟩, by kernel_rfl, fun w => by kernel_rfl, fun w => by kernel_rfl, rfl⟩
/-- What the document's Read answers. -/
def RTd (w w' : World) : Option Rd → Ending → Prop
  | none, e => e = .returned (.tuple #[.agg (hc zeros), .slice none 0 0, .slice none 0 0, .bool false])
  | some r, e => ∃ vp vm, e = .returned (.tuple #[.agg (hc r.id), vp, vm, .bool true]) ∧ r.id.length = 32 ∧ OI w' vp r.places ∧ OH 38 w' vm r.meant ∧ (∀ g, vp.ownBlock = some g → w.heap.size ≤ g) ∧ (∀ g, vm.ownBlock = some g → w.heap.size ≤ g)
/-- What the document's read says of the whole. -/
theorem DO.tell {n : Nat} {bs : List Bool} {is : List (List UInt8)} {wr : Bool} {b i : Nat} {id : List UInt8} {ps : List Nat} {ms : List (List UInt8)} (h1 : 1 ≤ n) (h2 : n ≤ 65536) (h : DO bs is n (dp n) 0 false 0 0 [] [] wr b i id ps ms) :
    (wr = true ∧ rdT n bs is = none) ∨ (wr = false ∧ (b < bs.length ∨ (¬ b < bs.length ∧ i < is.length)) ∧ rdT n bs is = none) ∨ (wr = false ∧ ¬ b < bs.length ∧ ¬ i < is.length ∧ ∃ r, rdT n bs is = some r ∧ r.id = id ∧ r.places = ps ∧ r.meant = ms) := by
  unfold rdT
  rw [if_pos ⟨by omega, by omega⟩, show ((n : Nat) : Int).toNat = n from rfl]
  rw [DO, if_neg (by decide), List.drop_zero, List.drop_zero] at h
  cases hr : rd n (dp n) 0 bs is with
  | none => rw [hr] at h; exact .inl ⟨h, rfl⟩
  | some r =>
    rw [hr] at h
    simp only at h
    obtain ⟨e1, e2, e3, e4, e5, e6⟩ := h
    rw [List.nil_append] at e5 e6
    by_cases hb : b < bs.length
    · refine .inr (.inl ⟨e1, .inl hb, ?_⟩)
      simp only
      rw [if_neg]
      rintro ⟨x, _⟩
      rw [x] at e3
      have := List.drop_eq_nil_iff.1 e3
      omega
    · by_cases hi : i < is.length
      · refine .inr (.inl ⟨e1, .inr ⟨hb, hi⟩, ?_⟩)
        simp only
        rw [if_neg]
        rintro ⟨_, x⟩
        rw [x] at e4
        have := List.drop_eq_nil_iff.1 e4
        omega
      · refine .inr (.inr ⟨e1, hb, hi, r, ?_, e2.symm, e5.symm, e6.symm⟩)
        simp only
        rw [if_pos]
        rw [List.drop_of_length_le (by omega)] at e3 e4
        exact ⟨e3.symm, e4.symm⟩
/-- A row of one's own that no list lies in. -/
structure Zr (B W : World) (vp vm : Value) (g : Nat) (c : Array Value) (t : TypeId) : Prop where
  row : W.heap[g]? = some (.cells c t (0, 0))
  far : B.heap.size ≤ g
  np : vp.ownBlock ≠ some g
  nm : vm.ownBlock ≠ some g
section
variable {B W W' : World} {vp vm vp' vm' : Value} {g g' : Nat} {c d : Array Value} {t : TypeId} {ps : List Nat} {ms : List (List UInt8)}
theorem Zr.new0 (hb : Below B.heap.size B W) (c : Array Value) (t : TypeId) : Zr B (W.alloc (.cells c t)) (.slice none 0 0) (.slice none 0 0) W.heap.size c t :=
  ⟨heap_alloc_last _ _, hb.size, (fun e => by cases e), (fun e => by cases e)⟩
theorem Zr.new (e : Es B W vp vm ps ms) (c : Array Value) (t : TypeId) : Zr B (W.alloc (.cells c t)) vp vm W.heap.size c t :=
  ⟨heap_alloc_last _ _, e.bel.size, (fun x => by have := e.pl.lt _ x; omega), (fun x => by have := e.mt.lt _ x; omega)⟩
theorem Zr.alloc (z : Zr B W vp vm g c t) (o : Obj) : Zr B (W.alloc o) vp vm g c t := ⟨(Below.heap_alloc _ _ _ (lt_heap z.row)).trans z.row, z.far, z.np, z.nm⟩
theorem Zr.on (z : Zr B W (.slice none 0 0) (.slice none 0 0) g c t) (o : On2 W W' (.slice none 0 0) (.slice none 0 0) vp' vm') : Zr B W' vp' vm' g c t := by
  refine ⟨o.keep z.row z.np z.nm, z.far, fun e => ?_, fun e => ?_⟩
  · rcases o.na with h | ⟨x, h, hx⟩
    · rw [h] at e; cases e
    · rw [h] at e
      cases e
      have := lt_heap z.row
      omega
  · rcases o.nb with h | ⟨x, h, hx⟩
    · rw [h] at e; cases e
    · rw [h] at e
      cases e
      have := lt_heap z.row
      omega
theorem Zr.put (z : Zr B W vp vm g c t) (d : Array Value) : Zr B (W.setRow g d) vp vm g d t := ⟨setRow_heap _ _ _ _ _ _ z.row, z.far, z.np, z.nm⟩
theorem Zr.other (z : Zr B W vp vm g c t) (hne : g ≠ g') (d : Array Value) : Zr B (W.setRow g' d) vp vm g c t := ⟨(setRow_other _ _ _ _ hne).trans z.row, z.far, z.np, z.nm⟩
theorem Zr.es (z : Zr B W vp vm g c t) (e : Es B W vp vm ps ms) (d : Array Value) : Es B (W.setRow g d) vp vm ps ms :=
  e.kept (below_setRow e.bel z.far d) (fun _ hk => setRow_other _ _ _ _ (fun x => z.np (hk.trans (congrArg some x)))) (fun _ hk => setRow_other _ _ _ _ (fun x => z.nm (hk.trans (congrArg some x))))
theorem es_alloc (e : Es B W vp vm ps ms) (o : Obj) : Es B (W.alloc o) vp vm ps ms := e.next ((Below.refl _ _).alloc (Nat.le_refl _) _)
theorem es_nil (h : Below B.heap.size B W) : Es B W (.slice none 0 0) (.slice none 0 0) [] [] := ⟨h, OI.nil _, (fun g x => by cases x), OH.nil _ _, (fun g x => by cases x)⟩
theorem zr_ne {t' : TypeId} (z : Zr B W vp vm g c t) (y : Zr B W vp vm g' d t') (ht : t ≠ t') : g ≠ g' := fun e => by
  have h := z.row
  rw [e, y.row] at h
  injection h with h
  injection h with _ h
  exact ht h.symm
end
/-- What is there behind the document's read. -/
structure Dq (B W : World) (n : Nat) (vb vi : Value) (bs : List Bool) (is : List (List UInt8)) (g6 g7 b i : Nat) (vp vm : Value) (wr : Bool) (id : List UInt8) (ps : List Nat) (ms : List (List UInt8)) : Prop where
  es : Es B W vp vm ps ms
  r6 : Zr B W vp vm g6 (r8 n vb vi b i vp vm wr) 68
  r7 : Zr B W vp vm g7 (hc id) 38
  idl : id.length = 32
  dox : DO bs is n (dp n) 0 false 0 0 [] [] wr b i id ps ms
section
set_option maxRecDepth 10000
set_option maxHeartbeats 4000000
set_option linter.unusedSimpArgs false
theorem rread_any (c : Int) (vb vi : Value) (bs : List Bool) (is : List (List UInt8)) (w : World) (hb : LB w vb bs) (hi : LH w vi is) (hbs : bs.length < 4611686018427387904) (his : is.length < 4611686018427387904) : Calls Tryd.prog 13 #[.agg #[.int .i64 c, vb, vi]] w fun e w' => Below w.heap.size w w' ∧ RTd w w' (rdT c bs is) e := by
  obtain ⟨ab, cb, rfl, _⟩ := hb.form
  obtain ⟨ai, ci, rfl⟩ := hi.form
  have B1 : Below w.heap.size w (w.alloc (.cells #[.int .i64 c, .slice ab bs.length cb, .slice ai is.length ci] 33)) := (Below.refl _ _).alloc (Nat.le_refl _) _
  have B2 : Hid (Below w.heap.size w ((w.alloc (.cells #[.int .i64 c, .slice ab bs.length cb, .slice ai is.length ci] 33)).alloc (.cells (hc zeros) 38))) := B1.alloc B1.size _
  have P2 : Hid (((w.alloc (.cells #[.int .i64 c, .slice ab bs.length cb, .slice ai is.length ci] 33)).alloc (.cells (hc zeros) 38)).heap[w.heap.size]? = some (.cells #[.int .i64 c, .slice ab bs.length cb, .slice ai is.length ci] 33 (0, 0))) := (blk2 w _ _).1
  have R2 : Hid (((w.alloc (.cells #[.int .i64 c, .slice ab bs.length cb, .slice ai is.length ci] 33)).alloc (.cells (hc zeros) 38)).heap[w.heap.size + 1]? = some (.cells (hc zeros) 38 (0, 0))) := (blk2 w _ _).2
  have LB2 := hide (hb.below B2.out)
  have LI2 := hide (hi.below B2.out)
  generalize hRD : rdT c bs is = RD at *
  have HRD0 := hide hRD
  have HG := hide (show w.heap.size ≤ w.heap.size + 1 by omega)
  have HBS := hide (And.intro hbs his)
  clear hRD hb hi B1 hbs his
  go_enter Tryd.func13, Tryd.ntmps13
  go_upto_region 1 with (first | refine wpList_boxA rfl _ rfl #[.int .i64 c, .slice ab bs.length cb, .slice ai is.length ci] rfl ?_ | refine wpList_allocA A24 rfl rfl ?_)
  generalize (w.alloc (.cells #[.int .i64 c, .slice ab bs.length cb, .slice ai is.length ci] 33)).alloc (.cells (hc zeros) 38) = W1 at *
  generalize w.heap.size + 1 = gr at *
  have PC : Hid (∀ W : World, W.heap[w.heap.size]? = some (.cells #[.int .i64 c, .slice ab bs.length cb, .slice ai is.length ci] 33 (0, 0)) → W.cell? ⟨w.heap.size, 0, none⟩ = some (.int .i64 c) ∧ W.cell? ⟨w.heap.size, 1, none⟩ = some (.slice ab bs.length cb) ∧ W.cell? ⟨w.heap.size, 2, none⟩ = some (.slice ai is.length ci)) := fun W h =>
    ⟨by rw [cell_of_row W _ 0 _ _ _ h]; rfl, by rw [cell_of_row W _ 1 _ _ _ h]; rfl, by rw [cell_of_row W _ 2 _ _ _ h]; rfl⟩
  have x0 := (PC.out _ P2.out).1
  by_cases hc1 : 1 ≤ c ∧ c ≤ 65536
  · obtain ⟨h1, h2⟩ := hc1
    obtain ⟨n, rfl⟩ : ∃ n : Nat, c = (n : Int) := ⟨c.toNat, by omega⟩
    have hn : n ≤ 65536 := by omega
    have hn1 : 1 ≤ n := by omega
    have h3 : ¬ (n : Int) < 1 := by omega
    have h4 : ¬ (65536 : Int) < (n : Int) := by omega
    have HN := hide (And.intro hn1 hn)
    have HDP := hide fun W => rdepth_any n (by omega) W
    have hd := dp_16 hn
    have hp2 : 2 ^ dp n ≤ 2 ^ 16 := Nat.pow_le_pow_right (by decide) hd
    have HRD : Hid (∀ W, Es W1 W (.slice none 0 0) (.slice none 0 0) [] [] → Calls Tryd.prog 25 #[.agg (r8 n (.slice ab bs.length cb) (.slice ai is.length ci) 0 0 (.slice none 0 0) (.slice none 0 0) false), .int .i64 ((dp n : Nat) : Int), .int .i64 0] W fun e w' => DA W1 W n (.slice ab bs.length cb) (.slice ai is.length ci) bs is (dp n) 0 false 0 0 (.slice none 0 0) (.slice none 0 0) [] [] e w') := fun W e =>
      dread_any LB2.out LI2.out HBS.out.1 HBS.out.2 hn (dp n) 0 (by omega) (by omega) (.slice none 0 0) (.slice none 0 0) 0 0 [] [] false W e (Nat.zero_le _) (Nat.zero_le _) (by simp only [List.length_nil]; omega) (by simp only [List.length_nil]; omega)
    have SL : Hid (∀ W, Below W1.heap.size W1 W → W.heap[w.heap.size]? = some (.cells #[.int .i64 (n : Int), .slice ab bs.length cb, .slice ai is.length ci] 33 (0, 0))) := fun W hb => (hb.block _ (lt_heap P2.out)).trans P2.out
    clear hp2 hd hn hn1 h1 h2
    go_upto_region 3 with fail
    clear x0
    go_cut [6, 7, 17] from 18 to 25 (fun s6 s7 s17 wx => ∃ g6 g7 b4 i4 vp4 vm4 wr4 id4 ps4 ms4, s6 = .pointer (some ⟨g6, 0, none⟩) ∧ s7 = .pointer (some ⟨g7, 0, none⟩) ∧ Dq W1 wx n (.slice ab bs.length cb) (.slice ai is.length ci) bs is g6 g7 b4 i4 vp4 vm4 wr4 id4 ps4 ms4)
    case first =>
      refine wp_region_held_drew (S := fun W => Below W1.heap.size W1 W) (by kernel_rfl) ((Below.refl _ _).drew) (fun hH => ?_)
      refine wpAnyH_take (i := 0) (v := .agg #[.int .i64 (n : Int), .slice ab bs.length cb, .slice ai is.length ci]) rfl (by kernel_rfl) (by kernel_rfl) (by kernel_rfl) (fun _ _ _ h => h) (yl_load (by rfl) _ (by rfl) _ _ (by rfl) (fun W hS => ld_row A3 rfl (SL.out W hS))) hH ?_
      change wpAnyH _ _ _ _ _ _ _ (Act.put _ (some 18) _) _
      simp only [Act.put, List.setIfInBounds_toArray, List.set_cons_zero, List.set_cons_succ]
      refine wpAnyH_take (i := 1) (v := .agg (r8 n (.slice ab bs.length cb) (.slice ai is.length ci) 0 0 (.slice none 0 0) (.slice none 0 0) false)) rfl (by kernel_rfl) (by kernel_rfl) (by kernel_rfl) (fun _ _ _ h => h) (.inl ⟨by rfl, fun W _ => by unfold r8; go_simp⟩) hH ?_
      change wpAnyH _ _ _ _ _ _ _ (Act.put _ (some 19) _) _
      simp only [Act.put, List.setIfInBounds_toArray, List.set_cons_zero, List.set_cons_succ]
      refine wpAnyH_take (i := 2) (v := .pointer (some ⟨w.heap.size, 0, none⟩)) rfl (by kernel_rfl) (by kernel_rfl) (by kernel_rfl) (fun _ _ _ h => h) (.inl ⟨by rfl, fun W _ => by go_simp⟩) hH ?_
      change wpAnyH _ _ _ _ _ _ _ (Act.put _ (some 20) _) _
      simp only [Act.put, List.setIfInBounds_toArray, List.set_cons_zero, List.set_cons_succ]
      refine wpAnyH_take (i := 3) (v := .int .i64 (n : Int)) rfl (by kernel_rfl) (by kernel_rfl) (by kernel_rfl) (fun _ _ _ h => h) (.inl ⟨by rfl, fun W hS => by have c4 := (PC.out W (SL.out W hS)).1; go_simp⟩) hH ?_
      change wpAnyH _ _ _ _ _ _ _ (Act.put _ (some 21) _) _
      simp only [Act.put, List.setIfInBounds_toArray, List.set_cons_zero, List.set_cons_succ]
      refine wpAnyH_ready (rs := [4, 9, 10]) (by kernel_rfl) (by simp) (AllReadyH.cons rfl (fun K1 hK1 => ?_) (AllReadyH.cons rfl (fun K1 hK1 => ?_) (AllReadyH.cons rfl (fun K1 hK1 => ?_) AllReadyH.nil)))
      · go_simp
        refine (HDP.out _).mono ?_
        rintro e wx ⟨rfl, hwx⟩
        subst wx
        refine hK1.out _ _ hH (fun hH => ?_)
        clear hK1
        refine wpAnyH_ready (rs := [5, 9, 10]) (by kernel_rfl) (by simp) (AllReadyH.cons rfl (fun K1 hK1 => ?_) (AllReadyH.cons rfl (fun K1 hK1 => ?_) (AllReadyH.cons rfl (fun K1 hK1 => ?_) AllReadyH.nil)))
        · go_simp
          refine (HRD.out _ (es_nil hH)).mono ?_
          rintro e w11 ⟨b4, i4, vp4, vm4, wr4, id4, ps4, ms4, rfl, hid, es4, on4, hb4, hi4, hps4, hms4, hdo⟩
          have ES := hide es4
          have IDL := hide hid
          have DOX := hide hdo
          have HF : Hid (vp4.oneCell' = true ∧ vm4.oneCell' = true) := ⟨(by obtain ⟨x, y, e⟩ := es4.pl.form; rw [e]; rfl), (by obtain ⟨x, y, e⟩ := es4.mt.form; rw [e]; rfl)⟩
          clear es4 hid hdo on4 hb4 hi4 hps4 hms4
          refine hK1.out _ _ ES.out.bel (fun hH => ?_)
          clear hK1
          refine wpAnyH_take (i := 6) (v := .tuple #[.agg (r8 n (.slice ab bs.length cb) (.slice ai is.length ci) b4 i4 vp4 vm4 wr4), .agg (hc id4)]) rfl (by kernel_rfl) (by kernel_rfl) (by kernel_rfl) (fun _ _ _ h => h) (yl_move (by rfl) _ (by rfl) _ (by rfl)) hH ?_
          change wpAnyH _ _ _ _ _ _ _ (Act.put _ (some 17) _) _
          simp only [Act.put, List.setIfInBounds_toArray, List.set_cons_zero, List.set_cons_succ]
          refine wpAnyH_take (i := 7) (v := .agg (r8 n (.slice ab bs.length cb) (.slice ai is.length ci) b4 i4 vp4 vm4 wr4)) rfl (by kernel_rfl) (by kernel_rfl) (by kernel_rfl) (fun _ _ _ h => h) (.inl ⟨by rfl, fun W _ => by go_simp⟩) hH ?_
          change wpAnyH _ _ _ _ _ _ _ (Act.put _ (some 24) _) _
          simp only [Act.put, List.setIfInBounds_toArray, List.set_cons_zero, List.set_cons_succ]
          refine wpAnyH_take (i := 8) (v := .agg (hc id4)) rfl (by kernel_rfl) (by kernel_rfl) (by kernel_rfl) (fun _ _ _ h => h) (.inl ⟨by rfl, fun W _ => by go_simp⟩) hH ?_
          change wpAnyH _ _ _ _ _ _ _ (Act.put _ (some 25) _) _
          simp only [Act.put, List.setIfInBounds_toArray, List.set_cons_zero, List.set_cons_succ]
          refine wpAnyH_ready (rs := [9, 10]) (by kernel_rfl) (by simp) (AllReadyH.cons rfl (fun K1 hK1 => ?_) (AllReadyH.cons rfl (fun K1 hK1 => ?_) AllReadyH.nil))
          · refine stepAllocA A8 (by rfl) (by rfl) ?_
            have Z6 := hide (Zr.new ES.out z8 68)
            replace ES := hide (es_alloc ES.out (.cells z8 68))
            refine hK1.out _ _ (hH.alloc hH.size _) (fun hH => ?_)
            clear hK1
            change wpAnyH _ _ _ _ _ _ _ (Act.put _ (some 6) _) _
            simp only [Act.put, List.setIfInBounds_toArray, List.set_cons_zero, List.set_cons_succ]
            generalize w11.heap.size = g6 at *
            generalize w11.alloc (.cells z8 68) = W12 at *
            refine wpAnyH_ready (rs := [10]) (by kernel_rfl) (by simp) (AllReadyH.cons rfl (fun K1 hK1 => ?_) AllReadyH.nil)
            refine stepAllocA A24 (by rfl) (by rfl) ?_
            have Z7 := hide (Zr.new ES.out (hc zeros) 38)
            replace ES := hide (es_alloc ES.out (.cells (hc zeros) 38))
            replace Z6 := hide (Z6.out.alloc (.cells (hc zeros) 38))
            refine hK1.out _ _ (hH.alloc hH.size _) (fun hH => ?_)
            clear hK1
            change wpAnyH _ _ _ _ _ _ _ (Act.put _ (some 7) _) _
            simp only [Act.put, List.setIfInBounds_toArray, List.set_cons_zero, List.set_cons_succ]
            generalize W12.heap.size = g7 at *
            generalize W12.alloc (.cells (hc zeros) 38) = W13 at *
            have N67 := zr_ne Z6.out Z7.out (by decide)
            refine wpAnyH_ready (rs := [11]) (by kernel_rfl) (by simp) (AllReadyH.cons rfl (fun K1 hK1 => ?_) AllReadyH.nil)
            refine stepStoreA A8 (by rfl) _ _ (by rfl) _ (r8 n (.slice ab bs.length cb) (.slice ai is.length ci) b4 i4 vp4 vm4 wr4) rfl (r8_one _ _ _ _ rfl rfl HF.out.1 HF.out.2) (by rfl) (by rfl) z8 rfl 68 Z6.out.row ?_
            have E5 := hide (Z6.out.es ES.out (r8 n (.slice ab bs.length cb) (.slice ai is.length ci) b4 i4 vp4 vm4 wr4))
            have Y7 := hide (Z7.out.other (Ne.symm N67) (r8 n (.slice ab bs.length cb) (.slice ai is.length ci) b4 i4 vp4 vm4 wr4))
            have Y6 := hide (Z6.out.put (r8 n (.slice ab bs.length cb) (.slice ai is.length ci) b4 i4 vp4 vm4 wr4))
            refine hK1.out _ _ E5.out.bel (fun hH => ?_)
            clear hK1 Z6 Z7 ES
            change wpAnyH _ _ _ _ _ _ _ (Act.put _ none _) _
            simp only [Act.put]
            refine wpAnyH_ready (rs := [12]) (by kernel_rfl) (by simp) (AllReadyH.cons rfl (fun K1 hK1 => ?_) AllReadyH.nil)
            refine stepStoreA A24 (by rfl) _ _ (by rfl) _ (hc id4) (by rw [hc_size, IDL.out]) (hc_one _) (by rfl) (by rfl) (hc zeros) (by rw [hc_size, zeros_len]) 38 Y7.out.row ?_
            have E6 := hide (Y7.out.es E5.out (hc id4))
            refine hK1.out _ _ E6.out.bel (fun hH => ?_)
            clear hK1
            change wpAnyH _ _ _ _ _ _ _ (Act.put _ none _) _
            simp only [Act.put]
            refine wpAnyH_done (by kernel_rfl) ?_ _
            go_wp2_with fail
            go_meet
            exact ⟨_, _, _, _, _, _, _, _, _, _, rfl, rfl, E6.out, Y6.out.other N67 _, Y7.out.put _, IDL.out, DOX.out⟩
          · refine stepAllocA A24 (by rfl) (by rfl) ?_
            have Z7 := hide (Zr.new ES.out (hc zeros) 38)
            replace ES := hide (es_alloc ES.out (.cells (hc zeros) 38))
            refine hK1.out _ _ (hH.alloc hH.size _) (fun hH => ?_)
            clear hK1
            change wpAnyH _ _ _ _ _ _ _ (Act.put _ (some 7) _) _
            simp only [Act.put, List.setIfInBounds_toArray, List.set_cons_zero, List.set_cons_succ]
            generalize w11.heap.size = g7 at *
            generalize w11.alloc (.cells (hc zeros) 38) = W14 at *
            refine wpAnyH_ready (rs := [9]) (by kernel_rfl) (by simp) (AllReadyH.cons rfl (fun K1 hK1 => ?_) AllReadyH.nil)
            refine stepAllocA A8 (by rfl) (by rfl) ?_
            have Z6 := hide (Zr.new ES.out z8 68)
            replace ES := hide (es_alloc ES.out (.cells z8 68))
            replace Z7 := hide (Z7.out.alloc (.cells z8 68))
            refine hK1.out _ _ (hH.alloc hH.size _) (fun hH => ?_)
            clear hK1
            change wpAnyH _ _ _ _ _ _ _ (Act.put _ (some 6) _) _
            simp only [Act.put, List.setIfInBounds_toArray, List.set_cons_zero, List.set_cons_succ]
            generalize W14.heap.size = g6 at *
            generalize W14.alloc (.cells z8 68) = W15 at *
            have N67 := zr_ne Z6.out Z7.out (by decide)
            refine wpAnyH_ready (rs := [11]) (by kernel_rfl) (by simp) (AllReadyH.cons rfl (fun K1 hK1 => ?_) AllReadyH.nil)
            refine stepStoreA A8 (by rfl) _ _ (by rfl) _ (r8 n (.slice ab bs.length cb) (.slice ai is.length ci) b4 i4 vp4 vm4 wr4) rfl (r8_one _ _ _ _ rfl rfl HF.out.1 HF.out.2) (by rfl) (by rfl) z8 rfl 68 Z6.out.row ?_
            have E5 := hide (Z6.out.es ES.out (r8 n (.slice ab bs.length cb) (.slice ai is.length ci) b4 i4 vp4 vm4 wr4))
            have Y7 := hide (Z7.out.other (Ne.symm N67) (r8 n (.slice ab bs.length cb) (.slice ai is.length ci) b4 i4 vp4 vm4 wr4))
            have Y6 := hide (Z6.out.put (r8 n (.slice ab bs.length cb) (.slice ai is.length ci) b4 i4 vp4 vm4 wr4))
            refine hK1.out _ _ E5.out.bel (fun hH => ?_)
            clear hK1 Z6 Z7 ES
            change wpAnyH _ _ _ _ _ _ _ (Act.put _ none _) _
            simp only [Act.put]
            refine wpAnyH_ready (rs := [12]) (by kernel_rfl) (by simp) (AllReadyH.cons rfl (fun K1 hK1 => ?_) AllReadyH.nil)
            refine stepStoreA A24 (by rfl) _ _ (by rfl) _ (hc id4) (by rw [hc_size, IDL.out]) (hc_one _) (by rfl) (by rfl) (hc zeros) (by rw [hc_size, zeros_len]) 38 Y7.out.row ?_
            have E6 := hide (Y7.out.es E5.out (hc id4))
            refine hK1.out _ _ E6.out.bel (fun hH => ?_)
            clear hK1
            change wpAnyH _ _ _ _ _ _ _ (Act.put _ none _) _
            simp only [Act.put]
            refine wpAnyH_done (by kernel_rfl) ?_ _
            go_wp2_with fail
            go_meet
            exact ⟨_, _, _, _, _, _, _, _, _, _, rfl, rfl, E6.out, Y6.out.other N67 _, Y7.out.put _, IDL.out, DOX.out⟩
        · refine stepAllocA A8 (by rfl) (by rfl) ?_
          have Z6 := hide (Zr.new0 hH z8 68)
          refine hK1.out _ _ (hH.alloc hH.size _) (fun hH => ?_)
          clear hK1
          change wpAnyH _ _ _ _ _ _ _ (Act.put _ (some 6) _) _
          simp only [Act.put, List.setIfInBounds_toArray, List.set_cons_zero, List.set_cons_succ]
          generalize W1.drew.heap.size = g6 at *
          generalize W1.drew.alloc (.cells z8 68) = W16 at *
          refine wpAnyH_ready (rs := [5, 10]) (by kernel_rfl) (by simp) (AllReadyH.cons rfl (fun K1 hK1 => ?_) (AllReadyH.cons rfl (fun K1 hK1 => ?_) AllReadyH.nil))
          · go_simp
            refine (HRD.out _ (es_nil hH)).mono ?_
            rintro e w17 ⟨b4, i4, vp4, vm4, wr4, id4, ps4, ms4, rfl, hid, es4, on4, hb4, hi4, hps4, hms4, hdo⟩
            have ES := hide es4
            have IDL := hide hid
            have DOX := hide hdo
            have HF : Hid (vp4.oneCell' = true ∧ vm4.oneCell' = true) := ⟨(by obtain ⟨x, y, e⟩ := es4.pl.form; rw [e]; rfl), (by obtain ⟨x, y, e⟩ := es4.mt.form; rw [e]; rfl)⟩
            replace Z6 := hide (Z6.out.on on4)
            clear es4 hid hdo on4 hb4 hi4 hps4 hms4
            refine hK1.out _ _ ES.out.bel (fun hH => ?_)
            clear hK1
            refine wpAnyH_take (i := 6) (v := .tuple #[.agg (r8 n (.slice ab bs.length cb) (.slice ai is.length ci) b4 i4 vp4 vm4 wr4), .agg (hc id4)]) rfl (by kernel_rfl) (by kernel_rfl) (by kernel_rfl) (fun _ _ _ h => h) (yl_move (by rfl) _ (by rfl) _ (by rfl)) hH ?_
            change wpAnyH _ _ _ _ _ _ _ (Act.put _ (some 17) _) _
            simp only [Act.put, List.setIfInBounds_toArray, List.set_cons_zero, List.set_cons_succ]
            refine wpAnyH_take (i := 7) (v := .agg (r8 n (.slice ab bs.length cb) (.slice ai is.length ci) b4 i4 vp4 vm4 wr4)) rfl (by kernel_rfl) (by kernel_rfl) (by kernel_rfl) (fun _ _ _ h => h) (.inl ⟨by rfl, fun W _ => by go_simp⟩) hH ?_
            change wpAnyH _ _ _ _ _ _ _ (Act.put _ (some 24) _) _
            simp only [Act.put, List.setIfInBounds_toArray, List.set_cons_zero, List.set_cons_succ]
            refine wpAnyH_take (i := 8) (v := .agg (hc id4)) rfl (by kernel_rfl) (by kernel_rfl) (by kernel_rfl) (fun _ _ _ h => h) (.inl ⟨by rfl, fun W _ => by go_simp⟩) hH ?_
            change wpAnyH _ _ _ _ _ _ _ (Act.put _ (some 25) _) _
            simp only [Act.put, List.setIfInBounds_toArray, List.set_cons_zero, List.set_cons_succ]
            refine wpAnyH_ready (rs := [10]) (by kernel_rfl) (by simp) (AllReadyH.cons rfl (fun K1 hK1 => ?_) AllReadyH.nil)
            refine stepAllocA A24 (by rfl) (by rfl) ?_
            have Z7 := hide (Zr.new ES.out (hc zeros) 38)
            replace ES := hide (es_alloc ES.out (.cells (hc zeros) 38))
            replace Z6 := hide (Z6.out.alloc (.cells (hc zeros) 38))
            refine hK1.out _ _ (hH.alloc hH.size _) (fun hH => ?_)
            clear hK1
            change wpAnyH _ _ _ _ _ _ _ (Act.put _ (some 7) _) _
            simp only [Act.put, List.setIfInBounds_toArray, List.set_cons_zero, List.set_cons_succ]
            generalize w17.heap.size = g7 at *
            generalize w17.alloc (.cells (hc zeros) 38) = W18 at *
            have N67 := zr_ne Z6.out Z7.out (by decide)
            refine wpAnyH_ready (rs := [11]) (by kernel_rfl) (by simp) (AllReadyH.cons rfl (fun K1 hK1 => ?_) AllReadyH.nil)
            refine stepStoreA A8 (by rfl) _ _ (by rfl) _ (r8 n (.slice ab bs.length cb) (.slice ai is.length ci) b4 i4 vp4 vm4 wr4) rfl (r8_one _ _ _ _ rfl rfl HF.out.1 HF.out.2) (by rfl) (by rfl) z8 rfl 68 Z6.out.row ?_
            have E5 := hide (Z6.out.es ES.out (r8 n (.slice ab bs.length cb) (.slice ai is.length ci) b4 i4 vp4 vm4 wr4))
            have Y7 := hide (Z7.out.other (Ne.symm N67) (r8 n (.slice ab bs.length cb) (.slice ai is.length ci) b4 i4 vp4 vm4 wr4))
            have Y6 := hide (Z6.out.put (r8 n (.slice ab bs.length cb) (.slice ai is.length ci) b4 i4 vp4 vm4 wr4))
            refine hK1.out _ _ E5.out.bel (fun hH => ?_)
            clear hK1 Z6 Z7 ES
            change wpAnyH _ _ _ _ _ _ _ (Act.put _ none _) _
            simp only [Act.put]
            refine wpAnyH_ready (rs := [12]) (by kernel_rfl) (by simp) (AllReadyH.cons rfl (fun K1 hK1 => ?_) AllReadyH.nil)
            refine stepStoreA A24 (by rfl) _ _ (by rfl) _ (hc id4) (by rw [hc_size, IDL.out]) (hc_one _) (by rfl) (by rfl) (hc zeros) (by rw [hc_size, zeros_len]) 38 Y7.out.row ?_
            have E6 := hide (Y7.out.es E5.out (hc id4))
            refine hK1.out _ _ E6.out.bel (fun hH => ?_)
            clear hK1
            change wpAnyH _ _ _ _ _ _ _ (Act.put _ none _) _
            simp only [Act.put]
            refine wpAnyH_done (by kernel_rfl) ?_ _
            go_wp2_with fail
            go_meet
            exact ⟨_, _, _, _, _, _, _, _, _, _, rfl, rfl, E6.out, Y6.out.other N67 _, Y7.out.put _, IDL.out, DOX.out⟩
          · refine stepAllocA A24 (by rfl) (by rfl) ?_
            have Z7 := hide (Zr.new0 hH (hc zeros) 38)
            replace Z6 := hide (Z6.out.alloc (.cells (hc zeros) 38))
            refine hK1.out _ _ (hH.alloc hH.size _) (fun hH => ?_)
            clear hK1
            change wpAnyH _ _ _ _ _ _ _ (Act.put _ (some 7) _) _
            simp only [Act.put, List.setIfInBounds_toArray, List.set_cons_zero, List.set_cons_succ]
            generalize W16.heap.size = g7 at *
            generalize W16.alloc (.cells (hc zeros) 38) = W19 at *
            refine wpAnyH_ready (rs := [5]) (by kernel_rfl) (by simp) (AllReadyH.cons rfl (fun K1 hK1 => ?_) AllReadyH.nil)
            go_simp
            refine (HRD.out _ (es_nil hH)).mono ?_
            rintro e w20 ⟨b4, i4, vp4, vm4, wr4, id4, ps4, ms4, rfl, hid, es4, on4, hb4, hi4, hps4, hms4, hdo⟩
            have ES := hide es4
            have IDL := hide hid
            have DOX := hide hdo
            have HF : Hid (vp4.oneCell' = true ∧ vm4.oneCell' = true) := ⟨(by obtain ⟨x, y, e⟩ := es4.pl.form; rw [e]; rfl), (by obtain ⟨x, y, e⟩ := es4.mt.form; rw [e]; rfl)⟩
            replace Z6 := hide (Z6.out.on on4)
            replace Z7 := hide (Z7.out.on on4)
            clear es4 hid hdo on4 hb4 hi4 hps4 hms4
            refine hK1.out _ _ ES.out.bel (fun hH => ?_)
            clear hK1
            refine wpAnyH_take (i := 6) (v := .tuple #[.agg (r8 n (.slice ab bs.length cb) (.slice ai is.length ci) b4 i4 vp4 vm4 wr4), .agg (hc id4)]) rfl (by kernel_rfl) (by kernel_rfl) (by kernel_rfl) (fun _ _ _ h => h) (yl_move (by rfl) _ (by rfl) _ (by rfl)) hH ?_
            change wpAnyH _ _ _ _ _ _ _ (Act.put _ (some 17) _) _
            simp only [Act.put, List.setIfInBounds_toArray, List.set_cons_zero, List.set_cons_succ]
            refine wpAnyH_take (i := 7) (v := .agg (r8 n (.slice ab bs.length cb) (.slice ai is.length ci) b4 i4 vp4 vm4 wr4)) rfl (by kernel_rfl) (by kernel_rfl) (by kernel_rfl) (fun _ _ _ h => h) (.inl ⟨by rfl, fun W _ => by go_simp⟩) hH ?_
            change wpAnyH _ _ _ _ _ _ _ (Act.put _ (some 24) _) _
            simp only [Act.put, List.setIfInBounds_toArray, List.set_cons_zero, List.set_cons_succ]
            refine wpAnyH_take (i := 8) (v := .agg (hc id4)) rfl (by kernel_rfl) (by kernel_rfl) (by kernel_rfl) (fun _ _ _ h => h) (.inl ⟨by rfl, fun W _ => by go_simp⟩) hH ?_
            change wpAnyH _ _ _ _ _ _ _ (Act.put _ (some 25) _) _
            simp only [Act.put, List.setIfInBounds_toArray, List.set_cons_zero, List.set_cons_succ]
            have N67 := zr_ne Z6.out Z7.out (by decide)
            refine wpAnyH_ready (rs := [11]) (by kernel_rfl) (by simp) (AllReadyH.cons rfl (fun K1 hK1 => ?_) AllReadyH.nil)
            refine stepStoreA A8 (by rfl) _ _ (by rfl) _ (r8 n (.slice ab bs.length cb) (.slice ai is.length ci) b4 i4 vp4 vm4 wr4) rfl (r8_one _ _ _ _ rfl rfl HF.out.1 HF.out.2) (by rfl) (by rfl) z8 rfl 68 Z6.out.row ?_
            have E5 := hide (Z6.out.es ES.out (r8 n (.slice ab bs.length cb) (.slice ai is.length ci) b4 i4 vp4 vm4 wr4))
            have Y7 := hide (Z7.out.other (Ne.symm N67) (r8 n (.slice ab bs.length cb) (.slice ai is.length ci) b4 i4 vp4 vm4 wr4))
            have Y6 := hide (Z6.out.put (r8 n (.slice ab bs.length cb) (.slice ai is.length ci) b4 i4 vp4 vm4 wr4))
            refine hK1.out _ _ E5.out.bel (fun hH => ?_)
            clear hK1 Z6 Z7 ES
            change wpAnyH _ _ _ _ _ _ _ (Act.put _ none _) _
            simp only [Act.put]
            refine wpAnyH_ready (rs := [12]) (by kernel_rfl) (by simp) (AllReadyH.cons rfl (fun K1 hK1 => ?_) AllReadyH.nil)
            refine stepStoreA A24 (by rfl) _ _ (by rfl) _ (hc id4) (by rw [hc_size, IDL.out]) (hc_one _) (by rfl) (by rfl) (hc zeros) (by rw [hc_size, zeros_len]) 38 Y7.out.row ?_
            have E6 := hide (Y7.out.es E5.out (hc id4))
            refine hK1.out _ _ E6.out.bel (fun hH => ?_)
            clear hK1
            change wpAnyH _ _ _ _ _ _ _ (Act.put _ none _) _
            simp only [Act.put]
            refine wpAnyH_done (by kernel_rfl) ?_ _
            go_wp2_with fail
            go_meet
            exact ⟨_, _, _, _, _, _, _, _, _, _, rfl, rfl, E6.out, Y6.out.other N67 _, Y7.out.put _, IDL.out, DOX.out⟩
        · refine stepAllocA A24 (by rfl) (by rfl) ?_
          have Z7 := hide (Zr.new0 hH (hc zeros) 38)
          refine hK1.out _ _ (hH.alloc hH.size _) (fun hH => ?_)
          clear hK1
          change wpAnyH _ _ _ _ _ _ _ (Act.put _ (some 7) _) _
          simp only [Act.put, List.setIfInBounds_toArray, List.set_cons_zero, List.set_cons_succ]
          generalize W1.drew.heap.size = g7 at *
          generalize W1.drew.alloc (.cells (hc zeros) 38) = W21 at *
          refine wpAnyH_ready (rs := [5, 9]) (by kernel_rfl) (by simp) (AllReadyH.cons rfl (fun K1 hK1 => ?_) (AllReadyH.cons rfl (fun K1 hK1 => ?_) AllReadyH.nil))
          · go_simp
            refine (HRD.out _ (es_nil hH)).mono ?_
            rintro e w22 ⟨b4, i4, vp4, vm4, wr4, id4, ps4, ms4, rfl, hid, es4, on4, hb4, hi4, hps4, hms4, hdo⟩
            have ES := hide es4
            have IDL := hide hid
            have DOX := hide hdo
            have HF : Hid (vp4.oneCell' = true ∧ vm4.oneCell' = true) := ⟨(by obtain ⟨x, y, e⟩ := es4.pl.form; rw [e]; rfl), (by obtain ⟨x, y, e⟩ := es4.mt.form; rw [e]; rfl)⟩
            replace Z7 := hide (Z7.out.on on4)
            clear es4 hid hdo on4 hb4 hi4 hps4 hms4
            refine hK1.out _ _ ES.out.bel (fun hH => ?_)
            clear hK1
            refine wpAnyH_take (i := 6) (v := .tuple #[.agg (r8 n (.slice ab bs.length cb) (.slice ai is.length ci) b4 i4 vp4 vm4 wr4), .agg (hc id4)]) rfl (by kernel_rfl) (by kernel_rfl) (by kernel_rfl) (fun _ _ _ h => h) (yl_move (by rfl) _ (by rfl) _ (by rfl)) hH ?_
            change wpAnyH _ _ _ _ _ _ _ (Act.put _ (some 17) _) _
            simp only [Act.put, List.setIfInBounds_toArray, List.set_cons_zero, List.set_cons_succ]
            refine wpAnyH_take (i := 7) (v := .agg (r8 n (.slice ab bs.length cb) (.slice ai is.length ci) b4 i4 vp4 vm4 wr4)) rfl (by kernel_rfl) (by kernel_rfl) (by kernel_rfl) (fun _ _ _ h => h) (.inl ⟨by rfl, fun W _ => by go_simp⟩) hH ?_
            change wpAnyH _ _ _ _ _ _ _ (Act.put _ (some 24) _) _
            simp only [Act.put, List.setIfInBounds_toArray, List.set_cons_zero, List.set_cons_succ]
            refine wpAnyH_take (i := 8) (v := .agg (hc id4)) rfl (by kernel_rfl) (by kernel_rfl) (by kernel_rfl) (fun _ _ _ h => h) (.inl ⟨by rfl, fun W _ => by go_simp⟩) hH ?_
            change wpAnyH _ _ _ _ _ _ _ (Act.put _ (some 25) _) _
            simp only [Act.put, List.setIfInBounds_toArray, List.set_cons_zero, List.set_cons_succ]
            refine wpAnyH_ready (rs := [9]) (by kernel_rfl) (by simp) (AllReadyH.cons rfl (fun K1 hK1 => ?_) AllReadyH.nil)
            refine stepAllocA A8 (by rfl) (by rfl) ?_
            have Z6 := hide (Zr.new ES.out z8 68)
            replace ES := hide (es_alloc ES.out (.cells z8 68))
            replace Z7 := hide (Z7.out.alloc (.cells z8 68))
            refine hK1.out _ _ (hH.alloc hH.size _) (fun hH => ?_)
            clear hK1
            change wpAnyH _ _ _ _ _ _ _ (Act.put _ (some 6) _) _
            simp only [Act.put, List.setIfInBounds_toArray, List.set_cons_zero, List.set_cons_succ]
            generalize w22.heap.size = g6 at *
            generalize w22.alloc (.cells z8 68) = W23 at *
            have N67 := zr_ne Z6.out Z7.out (by decide)
            refine wpAnyH_ready (rs := [11]) (by kernel_rfl) (by simp) (AllReadyH.cons rfl (fun K1 hK1 => ?_) AllReadyH.nil)
            refine stepStoreA A8 (by rfl) _ _ (by rfl) _ (r8 n (.slice ab bs.length cb) (.slice ai is.length ci) b4 i4 vp4 vm4 wr4) rfl (r8_one _ _ _ _ rfl rfl HF.out.1 HF.out.2) (by rfl) (by rfl) z8 rfl 68 Z6.out.row ?_
            have E5 := hide (Z6.out.es ES.out (r8 n (.slice ab bs.length cb) (.slice ai is.length ci) b4 i4 vp4 vm4 wr4))
            have Y7 := hide (Z7.out.other (Ne.symm N67) (r8 n (.slice ab bs.length cb) (.slice ai is.length ci) b4 i4 vp4 vm4 wr4))
            have Y6 := hide (Z6.out.put (r8 n (.slice ab bs.length cb) (.slice ai is.length ci) b4 i4 vp4 vm4 wr4))
            refine hK1.out _ _ E5.out.bel (fun hH => ?_)
            clear hK1 Z6 Z7 ES
            change wpAnyH _ _ _ _ _ _ _ (Act.put _ none _) _
            simp only [Act.put]
            refine wpAnyH_ready (rs := [12]) (by kernel_rfl) (by simp) (AllReadyH.cons rfl (fun K1 hK1 => ?_) AllReadyH.nil)
            refine stepStoreA A24 (by rfl) _ _ (by rfl) _ (hc id4) (by rw [hc_size, IDL.out]) (hc_one _) (by rfl) (by rfl) (hc zeros) (by rw [hc_size, zeros_len]) 38 Y7.out.row ?_
            have E6 := hide (Y7.out.es E5.out (hc id4))
            refine hK1.out _ _ E6.out.bel (fun hH => ?_)
            clear hK1
            change wpAnyH _ _ _ _ _ _ _ (Act.put _ none _) _
            simp only [Act.put]
            refine wpAnyH_done (by kernel_rfl) ?_ _
            go_wp2_with fail
            go_meet
            exact ⟨_, _, _, _, _, _, _, _, _, _, rfl, rfl, E6.out, Y6.out.other N67 _, Y7.out.put _, IDL.out, DOX.out⟩
          · refine stepAllocA A8 (by rfl) (by rfl) ?_
            have Z6 := hide (Zr.new0 hH z8 68)
            replace Z7 := hide (Z7.out.alloc (.cells z8 68))
            refine hK1.out _ _ (hH.alloc hH.size _) (fun hH => ?_)
            clear hK1
            change wpAnyH _ _ _ _ _ _ _ (Act.put _ (some 6) _) _
            simp only [Act.put, List.setIfInBounds_toArray, List.set_cons_zero, List.set_cons_succ]
            generalize W21.heap.size = g6 at *
            generalize W21.alloc (.cells z8 68) = W24 at *
            refine wpAnyH_ready (rs := [5]) (by kernel_rfl) (by simp) (AllReadyH.cons rfl (fun K1 hK1 => ?_) AllReadyH.nil)
            go_simp
            refine (HRD.out _ (es_nil hH)).mono ?_
            rintro e w25 ⟨b4, i4, vp4, vm4, wr4, id4, ps4, ms4, rfl, hid, es4, on4, hb4, hi4, hps4, hms4, hdo⟩
            have ES := hide es4
            have IDL := hide hid
            have DOX := hide hdo
            have HF : Hid (vp4.oneCell' = true ∧ vm4.oneCell' = true) := ⟨(by obtain ⟨x, y, e⟩ := es4.pl.form; rw [e]; rfl), (by obtain ⟨x, y, e⟩ := es4.mt.form; rw [e]; rfl)⟩
            replace Z6 := hide (Z6.out.on on4)
            replace Z7 := hide (Z7.out.on on4)
            clear es4 hid hdo on4 hb4 hi4 hps4 hms4
            refine hK1.out _ _ ES.out.bel (fun hH => ?_)
            clear hK1
            refine wpAnyH_take (i := 6) (v := .tuple #[.agg (r8 n (.slice ab bs.length cb) (.slice ai is.length ci) b4 i4 vp4 vm4 wr4), .agg (hc id4)]) rfl (by kernel_rfl) (by kernel_rfl) (by kernel_rfl) (fun _ _ _ h => h) (yl_move (by rfl) _ (by rfl) _ (by rfl)) hH ?_
            change wpAnyH _ _ _ _ _ _ _ (Act.put _ (some 17) _) _
            simp only [Act.put, List.setIfInBounds_toArray, List.set_cons_zero, List.set_cons_succ]
            refine wpAnyH_take (i := 7) (v := .agg (r8 n (.slice ab bs.length cb) (.slice ai is.length ci) b4 i4 vp4 vm4 wr4)) rfl (by kernel_rfl) (by kernel_rfl) (by kernel_rfl) (fun _ _ _ h => h) (.inl ⟨by rfl, fun W _ => by go_simp⟩) hH ?_
            change wpAnyH _ _ _ _ _ _ _ (Act.put _ (some 24) _) _
            simp only [Act.put, List.setIfInBounds_toArray, List.set_cons_zero, List.set_cons_succ]
            refine wpAnyH_take (i := 8) (v := .agg (hc id4)) rfl (by kernel_rfl) (by kernel_rfl) (by kernel_rfl) (fun _ _ _ h => h) (.inl ⟨by rfl, fun W _ => by go_simp⟩) hH ?_
            change wpAnyH _ _ _ _ _ _ _ (Act.put _ (some 25) _) _
            simp only [Act.put, List.setIfInBounds_toArray, List.set_cons_zero, List.set_cons_succ]
            have N67 := zr_ne Z6.out Z7.out (by decide)
            refine wpAnyH_ready (rs := [11]) (by kernel_rfl) (by simp) (AllReadyH.cons rfl (fun K1 hK1 => ?_) AllReadyH.nil)
            refine stepStoreA A8 (by rfl) _ _ (by rfl) _ (r8 n (.slice ab bs.length cb) (.slice ai is.length ci) b4 i4 vp4 vm4 wr4) rfl (r8_one _ _ _ _ rfl rfl HF.out.1 HF.out.2) (by rfl) (by rfl) z8 rfl 68 Z6.out.row ?_
            have E5 := hide (Z6.out.es ES.out (r8 n (.slice ab bs.length cb) (.slice ai is.length ci) b4 i4 vp4 vm4 wr4))
            have Y7 := hide (Z7.out.other (Ne.symm N67) (r8 n (.slice ab bs.length cb) (.slice ai is.length ci) b4 i4 vp4 vm4 wr4))
            have Y6 := hide (Z6.out.put (r8 n (.slice ab bs.length cb) (.slice ai is.length ci) b4 i4 vp4 vm4 wr4))
            refine hK1.out _ _ E5.out.bel (fun hH => ?_)
            clear hK1 Z6 Z7 ES
            change wpAnyH _ _ _ _ _ _ _ (Act.put _ none _) _
            simp only [Act.put]
            refine wpAnyH_ready (rs := [12]) (by kernel_rfl) (by simp) (AllReadyH.cons rfl (fun K1 hK1 => ?_) AllReadyH.nil)
            refine stepStoreA A24 (by rfl) _ _ (by rfl) _ (hc id4) (by rw [hc_size, IDL.out]) (hc_one _) (by rfl) (by rfl) (hc zeros) (by rw [hc_size, zeros_len]) 38 Y7.out.row ?_
            have E6 := hide (Y7.out.es E5.out (hc id4))
            refine hK1.out _ _ E6.out.bel (fun hH => ?_)
            clear hK1
            change wpAnyH _ _ _ _ _ _ _ (Act.put _ none _) _
            simp only [Act.put]
            refine wpAnyH_done (by kernel_rfl) ?_ _
            go_wp2_with fail
            go_meet
            exact ⟨_, _, _, _, _, _, _, _, _, _, rfl, rfl, E6.out, Y6.out.other N67 _, Y7.out.put _, IDL.out, DOX.out⟩
      · refine stepAllocA A8 (by rfl) (by rfl) ?_
        have Z6 := hide (Zr.new0 hH z8 68)
        refine hK1.out _ _ (hH.alloc hH.size _) (fun hH => ?_)
        clear hK1
        change wpAnyH _ _ _ _ _ _ _ (Act.put _ (some 6) _) _
        simp only [Act.put, List.setIfInBounds_toArray, List.set_cons_zero, List.set_cons_succ]
        generalize W1.drew.heap.size = g6 at *
        generalize W1.drew.alloc (.cells z8 68) = W26 at *
        refine wpAnyH_ready (rs := [4, 10]) (by kernel_rfl) (by simp) (AllReadyH.cons rfl (fun K1 hK1 => ?_) (AllReadyH.cons rfl (fun K1 hK1 => ?_) AllReadyH.nil))
        · go_simp
          refine (HDP.out _).mono ?_
          rintro e wx ⟨rfl, hwx⟩
          subst wx
          refine hK1.out _ _ hH (fun hH => ?_)
          clear hK1
          refine wpAnyH_ready (rs := [5, 10]) (by kernel_rfl) (by simp) (AllReadyH.cons rfl (fun K1 hK1 => ?_) (AllReadyH.cons rfl (fun K1 hK1 => ?_) AllReadyH.nil))
          · go_simp
            refine (HRD.out _ (es_nil hH)).mono ?_
            rintro e w27 ⟨b4, i4, vp4, vm4, wr4, id4, ps4, ms4, rfl, hid, es4, on4, hb4, hi4, hps4, hms4, hdo⟩
            have ES := hide es4
            have IDL := hide hid
            have DOX := hide hdo
            have HF : Hid (vp4.oneCell' = true ∧ vm4.oneCell' = true) := ⟨(by obtain ⟨x, y, e⟩ := es4.pl.form; rw [e]; rfl), (by obtain ⟨x, y, e⟩ := es4.mt.form; rw [e]; rfl)⟩
            replace Z6 := hide (Z6.out.on on4)
            clear es4 hid hdo on4 hb4 hi4 hps4 hms4
            refine hK1.out _ _ ES.out.bel (fun hH => ?_)
            clear hK1
            refine wpAnyH_take (i := 6) (v := .tuple #[.agg (r8 n (.slice ab bs.length cb) (.slice ai is.length ci) b4 i4 vp4 vm4 wr4), .agg (hc id4)]) rfl (by kernel_rfl) (by kernel_rfl) (by kernel_rfl) (fun _ _ _ h => h) (yl_move (by rfl) _ (by rfl) _ (by rfl)) hH ?_
            change wpAnyH _ _ _ _ _ _ _ (Act.put _ (some 17) _) _
            simp only [Act.put, List.setIfInBounds_toArray, List.set_cons_zero, List.set_cons_succ]
            refine wpAnyH_take (i := 7) (v := .agg (r8 n (.slice ab bs.length cb) (.slice ai is.length ci) b4 i4 vp4 vm4 wr4)) rfl (by kernel_rfl) (by kernel_rfl) (by kernel_rfl) (fun _ _ _ h => h) (.inl ⟨by rfl, fun W _ => by go_simp⟩) hH ?_
            change wpAnyH _ _ _ _ _ _ _ (Act.put _ (some 24) _) _
            simp only [Act.put, List.setIfInBounds_toArray, List.set_cons_zero, List.set_cons_succ]
            refine wpAnyH_take (i := 8) (v := .agg (hc id4)) rfl (by kernel_rfl) (by kernel_rfl) (by kernel_rfl) (fun _ _ _ h => h) (.inl ⟨by rfl, fun W _ => by go_simp⟩) hH ?_
            change wpAnyH _ _ _ _ _ _ _ (Act.put _ (some 25) _) _
            simp only [Act.put, List.setIfInBounds_toArray, List.set_cons_zero, List.set_cons_succ]
            refine wpAnyH_ready (rs := [10]) (by kernel_rfl) (by simp) (AllReadyH.cons rfl (fun K1 hK1 => ?_) AllReadyH.nil)
            refine stepAllocA A24 (by rfl) (by rfl) ?_
            have Z7 := hide (Zr.new ES.out (hc zeros) 38)
            replace ES := hide (es_alloc ES.out (.cells (hc zeros) 38))
            replace Z6 := hide (Z6.out.alloc (.cells (hc zeros) 38))
            refine hK1.out _ _ (hH.alloc hH.size _) (fun hH => ?_)
            clear hK1
            change wpAnyH _ _ _ _ _ _ _ (Act.put _ (some 7) _) _
            simp only [Act.put, List.setIfInBounds_toArray, List.set_cons_zero, List.set_cons_succ]
            generalize w27.heap.size = g7 at *
            generalize w27.alloc (.cells (hc zeros) 38) = W28 at *
            have N67 := zr_ne Z6.out Z7.out (by decide)
            refine wpAnyH_ready (rs := [11]) (by kernel_rfl) (by simp) (AllReadyH.cons rfl (fun K1 hK1 => ?_) AllReadyH.nil)
            refine stepStoreA A8 (by rfl) _ _ (by rfl) _ (r8 n (.slice ab bs.length cb) (.slice ai is.length ci) b4 i4 vp4 vm4 wr4) rfl (r8_one _ _ _ _ rfl rfl HF.out.1 HF.out.2) (by rfl) (by rfl) z8 rfl 68 Z6.out.row ?_
            have E5 := hide (Z6.out.es ES.out (r8 n (.slice ab bs.length cb) (.slice ai is.length ci) b4 i4 vp4 vm4 wr4))
            have Y7 := hide (Z7.out.other (Ne.symm N67) (r8 n (.slice ab bs.length cb) (.slice ai is.length ci) b4 i4 vp4 vm4 wr4))
            have Y6 := hide (Z6.out.put (r8 n (.slice ab bs.length cb) (.slice ai is.length ci) b4 i4 vp4 vm4 wr4))
            refine hK1.out _ _ E5.out.bel (fun hH => ?_)
            clear hK1 Z6 Z7 ES
            change wpAnyH _ _ _ _ _ _ _ (Act.put _ none _) _
            simp only [Act.put]
            refine wpAnyH_ready (rs := [12]) (by kernel_rfl) (by simp) (AllReadyH.cons rfl (fun K1 hK1 => ?_) AllReadyH.nil)
            refine stepStoreA A24 (by rfl) _ _ (by rfl) _ (hc id4) (by rw [hc_size, IDL.out]) (hc_one _) (by rfl) (by rfl) (hc zeros) (by rw [hc_size, zeros_len]) 38 Y7.out.row ?_
            have E6 := hide (Y7.out.es E5.out (hc id4))
            refine hK1.out _ _ E6.out.bel (fun hH => ?_)
            clear hK1
            change wpAnyH _ _ _ _ _ _ _ (Act.put _ none _) _
            simp only [Act.put]
            refine wpAnyH_done (by kernel_rfl) ?_ _
            go_wp2_with fail
            go_meet
            exact ⟨_, _, _, _, _, _, _, _, _, _, rfl, rfl, E6.out, Y6.out.other N67 _, Y7.out.put _, IDL.out, DOX.out⟩
          · refine stepAllocA A24 (by rfl) (by rfl) ?_
            have Z7 := hide (Zr.new0 hH (hc zeros) 38)
            replace Z6 := hide (Z6.out.alloc (.cells (hc zeros) 38))
            refine hK1.out _ _ (hH.alloc hH.size _) (fun hH => ?_)
            clear hK1
            change wpAnyH _ _ _ _ _ _ _ (Act.put _ (some 7) _) _
            simp only [Act.put, List.setIfInBounds_toArray, List.set_cons_zero, List.set_cons_succ]
            generalize W26.heap.size = g7 at *
            generalize W26.alloc (.cells (hc zeros) 38) = W29 at *
            refine wpAnyH_ready (rs := [5]) (by kernel_rfl) (by simp) (AllReadyH.cons rfl (fun K1 hK1 => ?_) AllReadyH.nil)
            go_simp
            refine (HRD.out _ (es_nil hH)).mono ?_
            rintro e w30 ⟨b4, i4, vp4, vm4, wr4, id4, ps4, ms4, rfl, hid, es4, on4, hb4, hi4, hps4, hms4, hdo⟩
            have ES := hide es4
            have IDL := hide hid
            have DOX := hide hdo
            have HF : Hid (vp4.oneCell' = true ∧ vm4.oneCell' = true) := ⟨(by obtain ⟨x, y, e⟩ := es4.pl.form; rw [e]; rfl), (by obtain ⟨x, y, e⟩ := es4.mt.form; rw [e]; rfl)⟩
            replace Z6 := hide (Z6.out.on on4)
            replace Z7 := hide (Z7.out.on on4)
            clear es4 hid hdo on4 hb4 hi4 hps4 hms4
            refine hK1.out _ _ ES.out.bel (fun hH => ?_)
            clear hK1
            refine wpAnyH_take (i := 6) (v := .tuple #[.agg (r8 n (.slice ab bs.length cb) (.slice ai is.length ci) b4 i4 vp4 vm4 wr4), .agg (hc id4)]) rfl (by kernel_rfl) (by kernel_rfl) (by kernel_rfl) (fun _ _ _ h => h) (yl_move (by rfl) _ (by rfl) _ (by rfl)) hH ?_
            change wpAnyH _ _ _ _ _ _ _ (Act.put _ (some 17) _) _
            simp only [Act.put, List.setIfInBounds_toArray, List.set_cons_zero, List.set_cons_succ]
            refine wpAnyH_take (i := 7) (v := .agg (r8 n (.slice ab bs.length cb) (.slice ai is.length ci) b4 i4 vp4 vm4 wr4)) rfl (by kernel_rfl) (by kernel_rfl) (by kernel_rfl) (fun _ _ _ h => h) (.inl ⟨by rfl, fun W _ => by go_simp⟩) hH ?_
            change wpAnyH _ _ _ _ _ _ _ (Act.put _ (some 24) _) _
            simp only [Act.put, List.setIfInBounds_toArray, List.set_cons_zero, List.set_cons_succ]
            refine wpAnyH_take (i := 8) (v := .agg (hc id4)) rfl (by kernel_rfl) (by kernel_rfl) (by kernel_rfl) (fun _ _ _ h => h) (.inl ⟨by rfl, fun W _ => by go_simp⟩) hH ?_
            change wpAnyH _ _ _ _ _ _ _ (Act.put _ (some 25) _) _
            simp only [Act.put, List.setIfInBounds_toArray, List.set_cons_zero, List.set_cons_succ]
            have N67 := zr_ne Z6.out Z7.out (by decide)
            refine wpAnyH_ready (rs := [11]) (by kernel_rfl) (by simp) (AllReadyH.cons rfl (fun K1 hK1 => ?_) AllReadyH.nil)
            refine stepStoreA A8 (by rfl) _ _ (by rfl) _ (r8 n (.slice ab bs.length cb) (.slice ai is.length ci) b4 i4 vp4 vm4 wr4) rfl (r8_one _ _ _ _ rfl rfl HF.out.1 HF.out.2) (by rfl) (by rfl) z8 rfl 68 Z6.out.row ?_
            have E5 := hide (Z6.out.es ES.out (r8 n (.slice ab bs.length cb) (.slice ai is.length ci) b4 i4 vp4 vm4 wr4))
            have Y7 := hide (Z7.out.other (Ne.symm N67) (r8 n (.slice ab bs.length cb) (.slice ai is.length ci) b4 i4 vp4 vm4 wr4))
            have Y6 := hide (Z6.out.put (r8 n (.slice ab bs.length cb) (.slice ai is.length ci) b4 i4 vp4 vm4 wr4))
            refine hK1.out _ _ E5.out.bel (fun hH => ?_)
            clear hK1 Z6 Z7 ES
            change wpAnyH _ _ _ _ _ _ _ (Act.put _ none _) _
            simp only [Act.put]
            refine wpAnyH_ready (rs := [12]) (by kernel_rfl) (by simp) (AllReadyH.cons rfl (fun K1 hK1 => ?_) AllReadyH.nil)
            refine stepStoreA A24 (by rfl) _ _ (by rfl) _ (hc id4) (by rw [hc_size, IDL.out]) (hc_one _) (by rfl) (by rfl) (hc zeros) (by rw [hc_size, zeros_len]) 38 Y7.out.row ?_
            have E6 := hide (Y7.out.es E5.out (hc id4))
            refine hK1.out _ _ E6.out.bel (fun hH => ?_)
            clear hK1
            change wpAnyH _ _ _ _ _ _ _ (Act.put _ none _) _
            simp only [Act.put]
            refine wpAnyH_done (by kernel_rfl) ?_ _
            go_wp2_with fail
            go_meet
            exact ⟨_, _, _, _, _, _, _, _, _, _, rfl, rfl, E6.out, Y6.out.other N67 _, Y7.out.put _, IDL.out, DOX.out⟩
        · refine stepAllocA A24 (by rfl) (by rfl) ?_
          have Z7 := hide (Zr.new0 hH (hc zeros) 38)
          replace Z6 := hide (Z6.out.alloc (.cells (hc zeros) 38))
          refine hK1.out _ _ (hH.alloc hH.size _) (fun hH => ?_)
          clear hK1
          change wpAnyH _ _ _ _ _ _ _ (Act.put _ (some 7) _) _
          simp only [Act.put, List.setIfInBounds_toArray, List.set_cons_zero, List.set_cons_succ]
          generalize W26.heap.size = g7 at *
          generalize W26.alloc (.cells (hc zeros) 38) = W31 at *
          refine wpAnyH_ready (rs := [4]) (by kernel_rfl) (by simp) (AllReadyH.cons rfl (fun K1 hK1 => ?_) AllReadyH.nil)
          go_simp
          refine (HDP.out _).mono ?_
          rintro e wx ⟨rfl, hwx⟩
          subst wx
          refine hK1.out _ _ hH (fun hH => ?_)
          clear hK1
          refine wpAnyH_ready (rs := [5]) (by kernel_rfl) (by simp) (AllReadyH.cons rfl (fun K1 hK1 => ?_) AllReadyH.nil)
          go_simp
          refine (HRD.out _ (es_nil hH)).mono ?_
          rintro e w32 ⟨b4, i4, vp4, vm4, wr4, id4, ps4, ms4, rfl, hid, es4, on4, hb4, hi4, hps4, hms4, hdo⟩
          have ES := hide es4
          have IDL := hide hid
          have DOX := hide hdo
          have HF : Hid (vp4.oneCell' = true ∧ vm4.oneCell' = true) := ⟨(by obtain ⟨x, y, e⟩ := es4.pl.form; rw [e]; rfl), (by obtain ⟨x, y, e⟩ := es4.mt.form; rw [e]; rfl)⟩
          replace Z6 := hide (Z6.out.on on4)
          replace Z7 := hide (Z7.out.on on4)
          clear es4 hid hdo on4 hb4 hi4 hps4 hms4
          refine hK1.out _ _ ES.out.bel (fun hH => ?_)
          clear hK1
          refine wpAnyH_take (i := 6) (v := .tuple #[.agg (r8 n (.slice ab bs.length cb) (.slice ai is.length ci) b4 i4 vp4 vm4 wr4), .agg (hc id4)]) rfl (by kernel_rfl) (by kernel_rfl) (by kernel_rfl) (fun _ _ _ h => h) (yl_move (by rfl) _ (by rfl) _ (by rfl)) hH ?_
          change wpAnyH _ _ _ _ _ _ _ (Act.put _ (some 17) _) _
          simp only [Act.put, List.setIfInBounds_toArray, List.set_cons_zero, List.set_cons_succ]
          refine wpAnyH_take (i := 7) (v := .agg (r8 n (.slice ab bs.length cb) (.slice ai is.length ci) b4 i4 vp4 vm4 wr4)) rfl (by kernel_rfl) (by kernel_rfl) (by kernel_rfl) (fun _ _ _ h => h) (.inl ⟨by rfl, fun W _ => by go_simp⟩) hH ?_
          change wpAnyH _ _ _ _ _ _ _ (Act.put _ (some 24) _) _
          simp only [Act.put, List.setIfInBounds_toArray, List.set_cons_zero, List.set_cons_succ]
          refine wpAnyH_take (i := 8) (v := .agg (hc id4)) rfl (by kernel_rfl) (by kernel_rfl) (by kernel_rfl) (fun _ _ _ h => h) (.inl ⟨by rfl, fun W _ => by go_simp⟩) hH ?_
          change wpAnyH _ _ _ _ _ _ _ (Act.put _ (some 25) _) _
          simp only [Act.put, List.setIfInBounds_toArray, List.set_cons_zero, List.set_cons_succ]
          have N67 := zr_ne Z6.out Z7.out (by decide)
          refine wpAnyH_ready (rs := [11]) (by kernel_rfl) (by simp) (AllReadyH.cons rfl (fun K1 hK1 => ?_) AllReadyH.nil)
          refine stepStoreA A8 (by rfl) _ _ (by rfl) _ (r8 n (.slice ab bs.length cb) (.slice ai is.length ci) b4 i4 vp4 vm4 wr4) rfl (r8_one _ _ _ _ rfl rfl HF.out.1 HF.out.2) (by rfl) (by rfl) z8 rfl 68 Z6.out.row ?_
          have E5 := hide (Z6.out.es ES.out (r8 n (.slice ab bs.length cb) (.slice ai is.length ci) b4 i4 vp4 vm4 wr4))
          have Y7 := hide (Z7.out.other (Ne.symm N67) (r8 n (.slice ab bs.length cb) (.slice ai is.length ci) b4 i4 vp4 vm4 wr4))
          have Y6 := hide (Z6.out.put (r8 n (.slice ab bs.length cb) (.slice ai is.length ci) b4 i4 vp4 vm4 wr4))
          refine hK1.out _ _ E5.out.bel (fun hH => ?_)
          clear hK1 Z6 Z7 ES
          change wpAnyH _ _ _ _ _ _ _ (Act.put _ none _) _
          simp only [Act.put]
          refine wpAnyH_ready (rs := [12]) (by kernel_rfl) (by simp) (AllReadyH.cons rfl (fun K1 hK1 => ?_) AllReadyH.nil)
          refine stepStoreA A24 (by rfl) _ _ (by rfl) _ (hc id4) (by rw [hc_size, IDL.out]) (hc_one _) (by rfl) (by rfl) (hc zeros) (by rw [hc_size, zeros_len]) 38 Y7.out.row ?_
          have E6 := hide (Y7.out.es E5.out (hc id4))
          refine hK1.out _ _ E6.out.bel (fun hH => ?_)
          clear hK1
          change wpAnyH _ _ _ _ _ _ _ (Act.put _ none _) _
          simp only [Act.put]
          refine wpAnyH_done (by kernel_rfl) ?_ _
          go_wp2_with fail
          go_meet
          exact ⟨_, _, _, _, _, _, _, _, _, _, rfl, rfl, E6.out, Y6.out.other N67 _, Y7.out.put _, IDL.out, DOX.out⟩
      · refine stepAllocA A24 (by rfl) (by rfl) ?_
        have Z7 := hide (Zr.new0 hH (hc zeros) 38)
        refine hK1.out _ _ (hH.alloc hH.size _) (fun hH => ?_)
        clear hK1
        change wpAnyH _ _ _ _ _ _ _ (Act.put _ (some 7) _) _
        simp only [Act.put, List.setIfInBounds_toArray, List.set_cons_zero, List.set_cons_succ]
        generalize W1.drew.heap.size = g7 at *
        generalize W1.drew.alloc (.cells (hc zeros) 38) = W33 at *
        refine wpAnyH_ready (rs := [4, 9]) (by kernel_rfl) (by simp) (AllReadyH.cons rfl (fun K1 hK1 => ?_) (AllReadyH.cons rfl (fun K1 hK1 => ?_) AllReadyH.nil))
        · go_simp
          refine (HDP.out _).mono ?_
          rintro e wx ⟨rfl, hwx⟩
          subst wx
          refine hK1.out _ _ hH (fun hH => ?_)
          clear hK1
          refine wpAnyH_ready (rs := [5, 9]) (by kernel_rfl) (by simp) (AllReadyH.cons rfl (fun K1 hK1 => ?_) (AllReadyH.cons rfl (fun K1 hK1 => ?_) AllReadyH.nil))
          · go_simp
            refine (HRD.out _ (es_nil hH)).mono ?_
            rintro e w34 ⟨b4, i4, vp4, vm4, wr4, id4, ps4, ms4, rfl, hid, es4, on4, hb4, hi4, hps4, hms4, hdo⟩
            have ES := hide es4
            have IDL := hide hid
            have DOX := hide hdo
            have HF : Hid (vp4.oneCell' = true ∧ vm4.oneCell' = true) := ⟨(by obtain ⟨x, y, e⟩ := es4.pl.form; rw [e]; rfl), (by obtain ⟨x, y, e⟩ := es4.mt.form; rw [e]; rfl)⟩
            replace Z7 := hide (Z7.out.on on4)
            clear es4 hid hdo on4 hb4 hi4 hps4 hms4
            refine hK1.out _ _ ES.out.bel (fun hH => ?_)
            clear hK1
            refine wpAnyH_take (i := 6) (v := .tuple #[.agg (r8 n (.slice ab bs.length cb) (.slice ai is.length ci) b4 i4 vp4 vm4 wr4), .agg (hc id4)]) rfl (by kernel_rfl) (by kernel_rfl) (by kernel_rfl) (fun _ _ _ h => h) (yl_move (by rfl) _ (by rfl) _ (by rfl)) hH ?_
            change wpAnyH _ _ _ _ _ _ _ (Act.put _ (some 17) _) _
            simp only [Act.put, List.setIfInBounds_toArray, List.set_cons_zero, List.set_cons_succ]
            refine wpAnyH_take (i := 7) (v := .agg (r8 n (.slice ab bs.length cb) (.slice ai is.length ci) b4 i4 vp4 vm4 wr4)) rfl (by kernel_rfl) (by kernel_rfl) (by kernel_rfl) (fun _ _ _ h => h) (.inl ⟨by rfl, fun W _ => by go_simp⟩) hH ?_
            change wpAnyH _ _ _ _ _ _ _ (Act.put _ (some 24) _) _
            simp only [Act.put, List.setIfInBounds_toArray, List.set_cons_zero, List.set_cons_succ]
            refine wpAnyH_take (i := 8) (v := .agg (hc id4)) rfl (by kernel_rfl) (by kernel_rfl) (by kernel_rfl) (fun _ _ _ h => h) (.inl ⟨by rfl, fun W _ => by go_simp⟩) hH ?_
            change wpAnyH _ _ _ _ _ _ _ (Act.put _ (some 25) _) _
            simp only [Act.put, List.setIfInBounds_toArray, List.set_cons_zero, List.set_cons_succ]
            refine wpAnyH_ready (rs := [9]) (by kernel_rfl) (by simp) (AllReadyH.cons rfl (fun K1 hK1 => ?_) AllReadyH.nil)
            refine stepAllocA A8 (by rfl) (by rfl) ?_
            have Z6 := hide (Zr.new ES.out z8 68)
            replace ES := hide (es_alloc ES.out (.cells z8 68))
            replace Z7 := hide (Z7.out.alloc (.cells z8 68))
            refine hK1.out _ _ (hH.alloc hH.size _) (fun hH => ?_)
            clear hK1
            change wpAnyH _ _ _ _ _ _ _ (Act.put _ (some 6) _) _
            simp only [Act.put, List.setIfInBounds_toArray, List.set_cons_zero, List.set_cons_succ]
            generalize w34.heap.size = g6 at *
            generalize w34.alloc (.cells z8 68) = W35 at *
            have N67 := zr_ne Z6.out Z7.out (by decide)
            refine wpAnyH_ready (rs := [11]) (by kernel_rfl) (by simp) (AllReadyH.cons rfl (fun K1 hK1 => ?_) AllReadyH.nil)
            refine stepStoreA A8 (by rfl) _ _ (by rfl) _ (r8 n (.slice ab bs.length cb) (.slice ai is.length ci) b4 i4 vp4 vm4 wr4) rfl (r8_one _ _ _ _ rfl rfl HF.out.1 HF.out.2) (by rfl) (by rfl) z8 rfl 68 Z6.out.row ?_
            have E5 := hide (Z6.out.es ES.out (r8 n (.slice ab bs.length cb) (.slice ai is.length ci) b4 i4 vp4 vm4 wr4))
            have Y7 := hide (Z7.out.other (Ne.symm N67) (r8 n (.slice ab bs.length cb) (.slice ai is.length ci) b4 i4 vp4 vm4 wr4))
            have Y6 := hide (Z6.out.put (r8 n (.slice ab bs.length cb) (.slice ai is.length ci) b4 i4 vp4 vm4 wr4))
            refine hK1.out _ _ E5.out.bel (fun hH => ?_)
            clear hK1 Z6 Z7 ES
            change wpAnyH _ _ _ _ _ _ _ (Act.put _ none _) _
            simp only [Act.put]
            refine wpAnyH_ready (rs := [12]) (by kernel_rfl) (by simp) (AllReadyH.cons rfl (fun K1 hK1 => ?_) AllReadyH.nil)
            refine stepStoreA A24 (by rfl) _ _ (by rfl) _ (hc id4) (by rw [hc_size, IDL.out]) (hc_one _) (by rfl) (by rfl) (hc zeros) (by rw [hc_size, zeros_len]) 38 Y7.out.row ?_
            have E6 := hide (Y7.out.es E5.out (hc id4))
            refine hK1.out _ _ E6.out.bel (fun hH => ?_)
            clear hK1
            change wpAnyH _ _ _ _ _ _ _ (Act.put _ none _) _
            simp only [Act.put]
            refine wpAnyH_done (by kernel_rfl) ?_ _
            go_wp2_with fail
            go_meet
            exact ⟨_, _, _, _, _, _, _, _, _, _, rfl, rfl, E6.out, Y6.out.other N67 _, Y7.out.put _, IDL.out, DOX.out⟩
          · refine stepAllocA A8 (by rfl) (by rfl) ?_
            have Z6 := hide (Zr.new0 hH z8 68)
            replace Z7 := hide (Z7.out.alloc (.cells z8 68))
            refine hK1.out _ _ (hH.alloc hH.size _) (fun hH => ?_)
            clear hK1
            change wpAnyH _ _ _ _ _ _ _ (Act.put _ (some 6) _) _
            simp only [Act.put, List.setIfInBounds_toArray, List.set_cons_zero, List.set_cons_succ]
            generalize W33.heap.size = g6 at *
            generalize W33.alloc (.cells z8 68) = W36 at *
            refine wpAnyH_ready (rs := [5]) (by kernel_rfl) (by simp) (AllReadyH.cons rfl (fun K1 hK1 => ?_) AllReadyH.nil)
            go_simp
            refine (HRD.out _ (es_nil hH)).mono ?_
            rintro e w37 ⟨b4, i4, vp4, vm4, wr4, id4, ps4, ms4, rfl, hid, es4, on4, hb4, hi4, hps4, hms4, hdo⟩
            have ES := hide es4
            have IDL := hide hid
            have DOX := hide hdo
            have HF : Hid (vp4.oneCell' = true ∧ vm4.oneCell' = true) := ⟨(by obtain ⟨x, y, e⟩ := es4.pl.form; rw [e]; rfl), (by obtain ⟨x, y, e⟩ := es4.mt.form; rw [e]; rfl)⟩
            replace Z6 := hide (Z6.out.on on4)
            replace Z7 := hide (Z7.out.on on4)
            clear es4 hid hdo on4 hb4 hi4 hps4 hms4
            refine hK1.out _ _ ES.out.bel (fun hH => ?_)
            clear hK1
            refine wpAnyH_take (i := 6) (v := .tuple #[.agg (r8 n (.slice ab bs.length cb) (.slice ai is.length ci) b4 i4 vp4 vm4 wr4), .agg (hc id4)]) rfl (by kernel_rfl) (by kernel_rfl) (by kernel_rfl) (fun _ _ _ h => h) (yl_move (by rfl) _ (by rfl) _ (by rfl)) hH ?_
            change wpAnyH _ _ _ _ _ _ _ (Act.put _ (some 17) _) _
            simp only [Act.put, List.setIfInBounds_toArray, List.set_cons_zero, List.set_cons_succ]
            refine wpAnyH_take (i := 7) (v := .agg (r8 n (.slice ab bs.length cb) (.slice ai is.length ci) b4 i4 vp4 vm4 wr4)) rfl (by kernel_rfl) (by kernel_rfl) (by kernel_rfl) (fun _ _ _ h => h) (.inl ⟨by rfl, fun W _ => by go_simp⟩) hH ?_
            change wpAnyH _ _ _ _ _ _ _ (Act.put _ (some 24) _) _
            simp only [Act.put, List.setIfInBounds_toArray, List.set_cons_zero, List.set_cons_succ]
            refine wpAnyH_take (i := 8) (v := .agg (hc id4)) rfl (by kernel_rfl) (by kernel_rfl) (by kernel_rfl) (fun _ _ _ h => h) (.inl ⟨by rfl, fun W _ => by go_simp⟩) hH ?_
            change wpAnyH _ _ _ _ _ _ _ (Act.put _ (some 25) _) _
            simp only [Act.put, List.setIfInBounds_toArray, List.set_cons_zero, List.set_cons_succ]
            have N67 := zr_ne Z6.out Z7.out (by decide)
            refine wpAnyH_ready (rs := [11]) (by kernel_rfl) (by simp) (AllReadyH.cons rfl (fun K1 hK1 => ?_) AllReadyH.nil)
            refine stepStoreA A8 (by rfl) _ _ (by rfl) _ (r8 n (.slice ab bs.length cb) (.slice ai is.length ci) b4 i4 vp4 vm4 wr4) rfl (r8_one _ _ _ _ rfl rfl HF.out.1 HF.out.2) (by rfl) (by rfl) z8 rfl 68 Z6.out.row ?_
            have E5 := hide (Z6.out.es ES.out (r8 n (.slice ab bs.length cb) (.slice ai is.length ci) b4 i4 vp4 vm4 wr4))
            have Y7 := hide (Z7.out.other (Ne.symm N67) (r8 n (.slice ab bs.length cb) (.slice ai is.length ci) b4 i4 vp4 vm4 wr4))
            have Y6 := hide (Z6.out.put (r8 n (.slice ab bs.length cb) (.slice ai is.length ci) b4 i4 vp4 vm4 wr4))
            refine hK1.out _ _ E5.out.bel (fun hH => ?_)
            clear hK1 Z6 Z7 ES
            change wpAnyH _ _ _ _ _ _ _ (Act.put _ none _) _
            simp only [Act.put]
            refine wpAnyH_ready (rs := [12]) (by kernel_rfl) (by simp) (AllReadyH.cons rfl (fun K1 hK1 => ?_) AllReadyH.nil)
            refine stepStoreA A24 (by rfl) _ _ (by rfl) _ (hc id4) (by rw [hc_size, IDL.out]) (hc_one _) (by rfl) (by rfl) (hc zeros) (by rw [hc_size, zeros_len]) 38 Y7.out.row ?_
            have E6 := hide (Y7.out.es E5.out (hc id4))
            refine hK1.out _ _ E6.out.bel (fun hH => ?_)
            clear hK1
            change wpAnyH _ _ _ _ _ _ _ (Act.put _ none _) _
            simp only [Act.put]
            refine wpAnyH_done (by kernel_rfl) ?_ _
            go_wp2_with fail
            go_meet
            exact ⟨_, _, _, _, _, _, _, _, _, _, rfl, rfl, E6.out, Y6.out.other N67 _, Y7.out.put _, IDL.out, DOX.out⟩
        · refine stepAllocA A8 (by rfl) (by rfl) ?_
          have Z6 := hide (Zr.new0 hH z8 68)
          replace Z7 := hide (Z7.out.alloc (.cells z8 68))
          refine hK1.out _ _ (hH.alloc hH.size _) (fun hH => ?_)
          clear hK1
          change wpAnyH _ _ _ _ _ _ _ (Act.put _ (some 6) _) _
          simp only [Act.put, List.setIfInBounds_toArray, List.set_cons_zero, List.set_cons_succ]
          generalize W33.heap.size = g6 at *
          generalize W33.alloc (.cells z8 68) = W38 at *
          refine wpAnyH_ready (rs := [4]) (by kernel_rfl) (by simp) (AllReadyH.cons rfl (fun K1 hK1 => ?_) AllReadyH.nil)
          go_simp
          refine (HDP.out _).mono ?_
          rintro e wx ⟨rfl, hwx⟩
          subst wx
          refine hK1.out _ _ hH (fun hH => ?_)
          clear hK1
          refine wpAnyH_ready (rs := [5]) (by kernel_rfl) (by simp) (AllReadyH.cons rfl (fun K1 hK1 => ?_) AllReadyH.nil)
          go_simp
          refine (HRD.out _ (es_nil hH)).mono ?_
          rintro e w39 ⟨b4, i4, vp4, vm4, wr4, id4, ps4, ms4, rfl, hid, es4, on4, hb4, hi4, hps4, hms4, hdo⟩
          have ES := hide es4
          have IDL := hide hid
          have DOX := hide hdo
          have HF : Hid (vp4.oneCell' = true ∧ vm4.oneCell' = true) := ⟨(by obtain ⟨x, y, e⟩ := es4.pl.form; rw [e]; rfl), (by obtain ⟨x, y, e⟩ := es4.mt.form; rw [e]; rfl)⟩
          replace Z6 := hide (Z6.out.on on4)
          replace Z7 := hide (Z7.out.on on4)
          clear es4 hid hdo on4 hb4 hi4 hps4 hms4
          refine hK1.out _ _ ES.out.bel (fun hH => ?_)
          clear hK1
          refine wpAnyH_take (i := 6) (v := .tuple #[.agg (r8 n (.slice ab bs.length cb) (.slice ai is.length ci) b4 i4 vp4 vm4 wr4), .agg (hc id4)]) rfl (by kernel_rfl) (by kernel_rfl) (by kernel_rfl) (fun _ _ _ h => h) (yl_move (by rfl) _ (by rfl) _ (by rfl)) hH ?_
          change wpAnyH _ _ _ _ _ _ _ (Act.put _ (some 17) _) _
          simp only [Act.put, List.setIfInBounds_toArray, List.set_cons_zero, List.set_cons_succ]
          refine wpAnyH_take (i := 7) (v := .agg (r8 n (.slice ab bs.length cb) (.slice ai is.length ci) b4 i4 vp4 vm4 wr4)) rfl (by kernel_rfl) (by kernel_rfl) (by kernel_rfl) (fun _ _ _ h => h) (.inl ⟨by rfl, fun W _ => by go_simp⟩) hH ?_
          change wpAnyH _ _ _ _ _ _ _ (Act.put _ (some 24) _) _
          simp only [Act.put, List.setIfInBounds_toArray, List.set_cons_zero, List.set_cons_succ]
          refine wpAnyH_take (i := 8) (v := .agg (hc id4)) rfl (by kernel_rfl) (by kernel_rfl) (by kernel_rfl) (fun _ _ _ h => h) (.inl ⟨by rfl, fun W _ => by go_simp⟩) hH ?_
          change wpAnyH _ _ _ _ _ _ _ (Act.put _ (some 25) _) _
          simp only [Act.put, List.setIfInBounds_toArray, List.set_cons_zero, List.set_cons_succ]
          have N67 := zr_ne Z6.out Z7.out (by decide)
          refine wpAnyH_ready (rs := [11]) (by kernel_rfl) (by simp) (AllReadyH.cons rfl (fun K1 hK1 => ?_) AllReadyH.nil)
          refine stepStoreA A8 (by rfl) _ _ (by rfl) _ (r8 n (.slice ab bs.length cb) (.slice ai is.length ci) b4 i4 vp4 vm4 wr4) rfl (r8_one _ _ _ _ rfl rfl HF.out.1 HF.out.2) (by rfl) (by rfl) z8 rfl 68 Z6.out.row ?_
          have E5 := hide (Z6.out.es ES.out (r8 n (.slice ab bs.length cb) (.slice ai is.length ci) b4 i4 vp4 vm4 wr4))
          have Y7 := hide (Z7.out.other (Ne.symm N67) (r8 n (.slice ab bs.length cb) (.slice ai is.length ci) b4 i4 vp4 vm4 wr4))
          have Y6 := hide (Z6.out.put (r8 n (.slice ab bs.length cb) (.slice ai is.length ci) b4 i4 vp4 vm4 wr4))
          refine hK1.out _ _ E5.out.bel (fun hH => ?_)
          clear hK1 Z6 Z7 ES
          change wpAnyH _ _ _ _ _ _ _ (Act.put _ none _) _
          simp only [Act.put]
          refine wpAnyH_ready (rs := [12]) (by kernel_rfl) (by simp) (AllReadyH.cons rfl (fun K1 hK1 => ?_) AllReadyH.nil)
          refine stepStoreA A24 (by rfl) _ _ (by rfl) _ (hc id4) (by rw [hc_size, IDL.out]) (hc_one _) (by rfl) (by rfl) (hc zeros) (by rw [hc_size, zeros_len]) 38 Y7.out.row ?_
          have E6 := hide (Y7.out.es E5.out (hc id4))
          refine hK1.out _ _ E6.out.bel (fun hH => ?_)
          clear hK1
          change wpAnyH _ _ _ _ _ _ _ (Act.put _ none _) _
          simp only [Act.put]
          refine wpAnyH_done (by kernel_rfl) ?_ _
          go_wp2_with fail
          go_meet
          exact ⟨_, _, _, _, _, _, _, _, _, _, rfl, rfl, E6.out, Y6.out.other N67 _, Y7.out.put _, IDL.out, DOX.out⟩
    obtain ⟨g6, g7, b4, i4, vp4, vm4, wr4, id4, ps4, ms4, rfl, rfl, DQ⟩ := hcut
    obtain ⟨ap4, cp4, rfl⟩ := DQ.es.pl.form
    obtain ⟨am4, cm4, rfl⟩ := DQ.es.mt.form
    have D := hide DQ
    clear DQ HDP HRD
    have R3 := hide ((D.out.es.bel.block _ (lt_heap R2.out)).trans R2.out)
    have N6 : Hid (g6 ≠ gr ∧ g7 ≠ gr) := by
      have h1 := D.out.r6.far
      have h2 := D.out.r7.far
      have h3 := lt_heap R2.out
      exact ⟨by omega, by omega⟩
    have VN : Hid ((∀ k, (Value.slice ap4 ps4.length cp4).ownBlock = some k → k ≠ gr) ∧ (∀ k, (Value.slice am4 ms4.length cm4).ownBlock = some k → k ≠ gr)) := by
      have h3 := lt_heap R2.out
      exact ⟨fun k hk => by have := D.out.es.pfar k hk; omega, fun k hk => by have := D.out.es.mfar k hk; omega⟩
    have B3 := hide (below_next B2.out D.out.es.bel)
    have c6 : ∀ j, j < 8 → wc.cell? ⟨g6, j, none⟩ = some (at8 (r8 n (.slice ab bs.length cb) (.slice ai is.length ci) b4 i4 (.slice ap4 ps4.length cp4) (.slice am4 ms4.length cm4) wr4) j) := fun j hj => World.rowIs.cell ((row8 rfl).2 D.out.r6.row) hj
    have y7 : wc.cell? ⟨g6, 7, none⟩ = some (.bool wr4) := c6 7 (by decide)
    have y3 : wc.cell? ⟨g6, 3, none⟩ = some (.int .i64 (b4 : Int)) := c6 3 (by decide)
    have y4 : wc.cell? ⟨g6, 4, none⟩ = some (.int .i64 (i4 : Int)) := c6 4 (by decide)
    have p1 := (PC.out _ (SL.out _ D.out.es.bel)).2.1
    have p2 := (PC.out _ (SL.out _ D.out.es.bel)).2.2
    have LC : Hid (∀ W : World, W.heap[g6]? = some (.cells (r8 n (.slice ab bs.length cb) (.slice ai is.length ci) b4 i4 (.slice ap4 ps4.length cp4) (.slice am4 ms4.length cm4) wr4) 68 (0, 0)) → W.cell? ⟨g6, 5, none⟩ = some (.slice ap4 ps4.length cp4) ∧ W.cell? ⟨g6, 6, none⟩ = some (.slice am4 ms4.length cm4)) := fun W h => by
      have e := (row8 (t := 68) (W := W) (g := g6) (c := r8 n (.slice ab bs.length cb) (.slice ai is.length ci) b4 i4 (.slice ap4 ps4.length cp4) (.slice am4 ms4.length cm4) wr4) rfl).2 h
      exact ⟨World.rowIs.cell e (i := 5) (by decide), World.rowIs.cell e (i := 6) (by decide)⟩
    clear c6
    rcases DO.tell HN.out.1 HN.out.2 D.out.dox with ⟨hw4, hrt⟩ | ⟨hw4, hcs, hrt⟩ | ⟨hw4, hb4, hi4, r, hrt, e1, e2, e3⟩
    · have HR : Hid (RD = none) := HRD0.out.symm.trans hrt
      subst hw4
      clear hrt HRD0 p1 p2 y3 y4
      go_wp2_with (first | refine wpList_buildA A24 rfl rfl ?_ | refine wpList_storeA A24 rfl _ _ rfl gr (hc zeros) (by rw [hc_size, zeros_len]) (hc_one _) rfl rfl (hc zeros) (by rw [hc_size, zeros_len]) 38 R3.out ?_)
      exact bodyPost_ret (v := .tuple #[.agg (hc zeros), .slice none 0 0, .slice none 0 0, .bool false]) (resA4 A24 Tryd.results13 _ _ gr 38 (hc zeros) (by rw [hc_size, zeros_len]) rfl (setRow_heap _ _ _ _ _ _ R3.out) _ (by rfl) _ (by rfl) _ (by rfl)) rfl ⟨below_setRow B3.out HG.out _, by rw [HR.out]; exact rfl⟩
    · have HR : Hid (RD = none) := HRD0.out.symm.trans hrt
      subst hw4
      clear hrt HRD0
      have hcs2 : (b4 : Int) < (bs.length : Int) ∨ (¬ (b4 : Int) < (bs.length : Int) ∧ (i4 : Int) < (is.length : Int)) := by
        rcases hcs with h | ⟨h, h'⟩
        · exact .inl (by omega)
        · exact .inr ⟨by omega, by omega⟩
      clear hcs
      generalize bs.length = lb at *
      generalize is.length = li at *
      rcases hcs2 with h5 | ⟨h5, h6⟩
      all_goals
        go_wp2_with (first | refine wpList_buildA A24 rfl rfl ?_ | refine wpList_storeA A24 rfl _ _ rfl gr (hc zeros) (by rw [hc_size, zeros_len]) (hc_one _) rfl rfl (hc zeros) (by rw [hc_size, zeros_len]) 38 R3.out ?_)
        exact bodyPost_ret (v := .tuple #[.agg (hc zeros), .slice none 0 0, .slice none 0 0, .bool false]) (resA4 A24 Tryd.results13 _ _ gr 38 (hc zeros) (by rw [hc_size, zeros_len]) rfl (setRow_heap _ _ _ _ _ _ R3.out) _ (by rfl) _ (by rfl) _ (by rfl)) rfl ⟨below_setRow B3.out HG.out _, by rw [HR.out]; exact rfl⟩
    · have HR : Hid (RD = some r) := HRD0.out.symm.trans hrt
      have HE := hide (And.intro e1 (And.intro e2 e3))
      subst hw4
      have h5 : ¬ (b4 : Int) < (bs.length : Int) := by omega
      have h6 : ¬ (i4 : Int) < (is.length : Int) := by omega
      clear hrt HRD0 e1 e2 e3 hb4 hi4
      go_upto_region 6 with fail
      clear y7 y3 y4 p1 p2
      have BZ := hide (below_setRow B3.out.drew HG.out (hc id4))
      have RZ : Hid ((wc.drew.setRow gr (hc id4)).heap[gr]? = some (.cells (hc id4) 38 (0, 0))) := setRow_heap _ _ _ _ _ _ (show wc.drew.heap[gr]? = _ from R3.out)
      have PZ : Hid (OI (wc.drew.setRow gr (hc id4)) (.slice ap4 ps4.length cp4) ps4) := D.out.es.pl.of_block (fun g hg => setRow_other _ _ _ _ (VN.out.1 g hg))
      have MZ : Hid (OH 38 (wc.drew.setRow gr (hc id4)) (.slice am4 ms4.length cm4) ms4) := D.out.es.mt.of_block (fun g hg => setRow_other _ _ _ _ (VN.out.2 g hg))
      have S6 : Hid ((wc.drew.setRow gr (hc id4)).heap[g6]? = some (.cells (r8 n (.slice ab bs.length cb) (.slice ai is.length ci) b4 i4 (.slice ap4 ps4.length cp4) (.slice am4 ms4.length cm4) false) 68 (0, 0))) := (setRow_other _ _ _ _ N6.out.1).trans D.out.r6.row
      have S7 : Hid ((wc.drew.setRow gr (hc id4)).heap[g7]? = some (.cells (hc id4) 38 (0, 0))) := (setRow_other _ _ _ _ N6.out.2).trans D.out.r7.row
      have IDL := hide D.out.idl
      have FA : Hid ((∀ g, (Value.slice ap4 ps4.length cp4).ownBlock = some g → w.heap.size ≤ g) ∧ (∀ g, (Value.slice am4 ms4.length cm4).ownBlock = some g → w.heap.size ≤ g)) := ⟨fun g hg => Nat.le_trans B2.out.size (D.out.es.pfar g hg), fun g hg => Nat.le_trans B2.out.size (D.out.es.mfar g hg)⟩
      refine wp_region_held_drew (S := fun W => W.heap[g7]? = some (.cells (hc id4) 38 (0, 0)) ∧ W.heap[g6]? = some (.cells (r8 n (.slice ab bs.length cb) (.slice ai is.length ci) b4 i4 (.slice ap4 ps4.length cp4) (.slice am4 ms4.length cm4) false) 68 (0, 0))) (by kernel_rfl) ⟨D.out.r7.row, D.out.r6.row⟩ (fun hH => ?_)
      refine wpAnyH_take (i := 0) (v := .agg (hc id4)) rfl (by kernel_rfl) (by kernel_rfl) (by kernel_rfl) (fun _ _ _ h => h) (yl_load (by rfl) _ (by rfl) _ (hc id4) (by rfl) (fun W hS => ld_row A24 (by rw [hc_size, IDL.out]) hS.1)) hH ?_
      change wpAnyH _ _ _ _ _ _ _ (Act.put _ (some 45) _) _
      simp only [Act.put, List.setIfInBounds_toArray, List.set_cons_zero, List.set_cons_succ]
      refine wpAnyH_take (i := 1) (v := .pointer (some ⟨g6, 5, none⟩)) rfl (by kernel_rfl) (by kernel_rfl) (by kernel_rfl) (fun _ _ _ h => h) (.inl ⟨by rfl, fun W _ => by go_simp⟩) hH ?_
      change wpAnyH _ _ _ _ _ _ _ (Act.put _ (some 46) _) _
      simp only [Act.put, List.setIfInBounds_toArray, List.set_cons_zero, List.set_cons_succ]
      refine wpAnyH_take (i := 2) (v := .slice ap4 ps4.length cp4) rfl (by kernel_rfl) (by kernel_rfl) (by kernel_rfl) (fun _ _ _ h => h) (.inl ⟨by rfl, fun W hS => by have c4 := (LC.out W hS.2).1; go_simp⟩) hH ?_
      change wpAnyH _ _ _ _ _ _ _ (Act.put _ (some 47) _) _
      simp only [Act.put, List.setIfInBounds_toArray, List.set_cons_zero, List.set_cons_succ]
      refine wpAnyH_take (i := 3) (v := .pointer (some ⟨g6, 6, none⟩)) rfl (by kernel_rfl) (by kernel_rfl) (by kernel_rfl) (fun _ _ _ h => h) (.inl ⟨by rfl, fun W _ => by go_simp⟩) hH ?_
      change wpAnyH _ _ _ _ _ _ _ (Act.put _ (some 48) _) _
      simp only [Act.put, List.setIfInBounds_toArray, List.set_cons_zero, List.set_cons_succ]
      refine wpAnyH_take (i := 4) (v := .slice am4 ms4.length cm4) rfl (by kernel_rfl) (by kernel_rfl) (by kernel_rfl) (fun _ _ _ h => h) (.inl ⟨by rfl, fun W hS => by have c4 := (LC.out W hS.2).2; go_simp⟩) hH ?_
      change wpAnyH _ _ _ _ _ _ _ (Act.put _ (some 49) _) _
      simp only [Act.put, List.setIfInBounds_toArray, List.set_cons_zero, List.set_cons_succ]
      refine wpAnyH_ready (rs := [5]) (by kernel_rfl) (by simp) (AllReadyH.cons rfl (fun K1 hK1 => ?_) AllReadyH.nil)
      refine stepStoreA A24 (by rfl) _ _ (by rfl) gr (hc id4) (by rw [hc_size, IDL.out]) (hc_one _) (by rfl) (by rfl) (hc zeros) (by rw [hc_size, zeros_len]) 38 R3.out ?_
      refine hK1.out _ _ ⟨S7.out, S6.out⟩ (fun hH => ?_)
      clear hK1
      generalize wc.drew.setRow gr (hc id4) = W6 at *
      refine wpAnyH_take (i := 6) (v := .slice ap4 ps4.length cp4) rfl (by kernel_rfl) (by kernel_rfl) (by kernel_rfl) (fun _ _ _ h => h) (.inl ⟨by rfl, fun W _ => by go_simp⟩) hH ?_
      change wpAnyH _ _ _ _ _ _ _ (Act.put _ (some 3) _) _
      simp only [Act.put, List.setIfInBounds_toArray, List.set_cons_zero, List.set_cons_succ]
      refine wpAnyH_take (i := 7) (v := .slice am4 ms4.length cm4) rfl (by kernel_rfl) (by kernel_rfl) (by kernel_rfl) (fun _ _ _ h => h) (.inl ⟨by rfl, fun W _ => by go_simp⟩) hH ?_
      change wpAnyH _ _ _ _ _ _ _ (Act.put _ (some 4) _) _
      simp only [Act.put, List.setIfInBounds_toArray, List.set_cons_zero, List.set_cons_succ]
      refine wpAnyH_take (i := 8) (v := .bool true) rfl (by kernel_rfl) (by kernel_rfl) (by kernel_rfl) (fun _ _ _ h => h) (.inl ⟨by rfl, fun W _ => by go_simp⟩) hH ?_
      change wpAnyH _ _ _ _ _ _ _ (Act.put _ (some 5) _) _
      simp only [Act.put, List.setIfInBounds_toArray, List.set_cons_zero, List.set_cons_succ]
      refine wpAnyH_done (by kernel_rfl) ?_ _
      go_wp2
      exact bodyPost_ret (v := .tuple #[.agg (hc id4), .slice ap4 ps4.length cp4, .slice am4 ms4.length cm4, .bool true]) (resA4 A24 Tryd.results13 _ _ gr 38 (hc id4) (by rw [hc_size, IDL.out]) rfl RZ.out _ (by rfl) _ (by rfl) _ (by rfl)) rfl ⟨BZ.out, by rw [HR.out]; exact ⟨_, _, by rw [HE.out.1], by rw [HE.out.1]; exact IDL.out, by rw [HE.out.2.1]; exact PZ.out, by rw [HE.out.2.2]; exact MZ.out, FA.out.1, FA.out.2⟩⟩
  · have HR : Hid (RD = none) := by
      show _ = _
      rw [← HRD0.out, rdT, if_neg hc1]
    have hcs : c < 1 ∨ (¬ c < 1 ∧ 65536 < c) := by omega
    clear hc1 HRD0
    rcases hcs with h5 | ⟨h5, h6⟩
    all_goals
      go_wp2_with (first | refine wpList_buildA A24 rfl rfl ?_ | refine wpList_storeA A24 rfl _ _ rfl gr (hc zeros) (by rw [hc_size, zeros_len]) (hc_one _) rfl rfl (hc zeros) (by rw [hc_size, zeros_len]) 38 R2.out ?_)
      exact bodyPost_ret (v := .tuple #[.agg (hc zeros), .slice none 0 0, .slice none 0 0, .bool false]) (resA4 A24 Tryd.results13 _ _ gr 38 (hc zeros) (by rw [hc_size, zeros_len]) rfl (setRow_heap _ _ _ _ _ _ R2.out) _ (by rfl) _ (by rfl) _ (by rfl)) rfl ⟨below_setRow B2.out HG.out _, by rw [HR.out]; exact rfl⟩
end
end Go.Proofs.YthlaibkdcebekaaDoor
