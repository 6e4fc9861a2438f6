/- Claims of headers: the document's: its contract. The law's head of layer 15: its contract; what the law makes of headers. A row of one's own: cells in the midst of an element are written anew. -/
import Derived.Test.YtofddbjnncgmlaaGreatDoorX43
import Derived.Test.YtofddbjnncgmlaaGreatDoorX39
namespace Go.Proofs.YtofddbjnncgmlaaGreatDoor
open Go.RowKit
open Go.Deep
open Go.Maps
set_option linter.unusedVariables false
set_option linter.unusedSimpArgs false
theorem lkF_lt (L : List Hd) : ∀ (f i : Nat), lkF L f i = -1 ∨ ((i : Int) ≤ lkF L f i ∧ lkF L f i < ((i + f : Nat) : Int))
  | 0, i => .inl rfl
  | f + 1, i => by
    unfold lkF
    split
    · rcases lkF_lt L f (i + 1) with h | ⟨h1, h2⟩
      · exact .inl h
      · exact .inr ⟨by omega, by omega⟩
    · exact .inr ⟨Int.le_refl _, by omega⟩
theorem lkN_lt (L : List Hd) : lkN L < 0 ∨ (0 ≤ lkN L ∧ lkN L < (L.length : Int)) := by
  rcases lkF_lt L (L.length - 1) 1 with h | ⟨h1, h2⟩
  · exact .inl (by show lkF L (L.length - 1) 1 < 0; omega)
  · refine .inr ⟨by show 0 ≤ lkF L (L.length - 1) 1; omega, ?_⟩
    show lkF L (L.length - 1) 1 < _
    rcases Nat.eq_zero_or_pos L.length with e | e
    · rw [e] at h1 h2
      omega
    · omega
/-- The works of the first ones, added up. -/
def swN (L : List Hd) : Nat → Nat
  | 0 => 0
  | k + 1 => swN L k + wk (L.getD k zHd).bits.toNat
theorem sw_eq (L : List Hd) : ∀ k, sw L k = swN L k % M
  | 0 => by simp [sw, swN]
  | k + 1 => by rw [sw, swN, sw_eq L k, Nat.mod_add_mod]
/-- What is carried. -/
def cyB (m n i : Nat) : Nat := (m % 256 ^ i + n % 256 ^ i) / 256 ^ i
theorem cyB_zero (m n : Nat) : cyB m n 0 = 0 := by simp [cyB, Nat.mod_one]
theorem cyB_le (m n i : Nat) : cyB m n i ≤ 1 := carry_le _ m n i (by decide)
theorem cyB_dig (m n i : Nat) : (dg 256 m i + dg 256 n i + cyB m n i) % 256 = dg 256 (m + n) i := (add_digit _ m n i (by decide)).symm
theorem cyB_step (m n i : Nat) : (dg 256 m i + dg 256 n i + cyB m n i) / 256 = cyB m n (i + 1) := (add_carry _ m n i (by decide)).symm
theorem wpLoadHr15 {w : World} {ops : Array Oper} {rest : List Oper} {o : Oper} {a : Act} {Q : Exit → Act → World → Prop} (x : Operand) (ho : o.op = .load 66 x) (g off : Nat) (hx : a.eval x = .pointer (some ⟨g, off, none⟩)) (y : Hd) (hr : w.rangeAt g off y.cells) (hw : Region.wanted o (yielded ops a.tmps) = true)
    (h : wpList Tryz.prog ops Q rest (a.put o.dst (.agg y.cells.toArray)) w) : wpList Tryz.prog ops Q (o :: rest) a w := by
  have ld := ldHr14 hr
  refine wpList_step fun K hK => ?_
  rw [if_pos hw]
  unfold Oper.wp execOp
  simp only [ho, hx, ld, Sem.run_bind, Result.andThen_ok, Sem.run_pure]
  exact hK _ _ h
/-- A number under way, and an answer's place. -/
structure Lz (w W : World) (g : Nat) (f : Nat → Nat) : Prop where
  a : Ni W g 180 40 f
  r : W.heap[w.heap.size]? = some (.cells (wn 0) 50 (0, 0))
  ne : w.heap.size < g
  bel : Below w.heap.size w W
theorem Lz.congr {w W : World} {g : Nat} {f f' : Nat → Nat} (j : Lz w W g f) (e : ∀ i, i < 40 → f i = f' i) : Lz w W g f' := ⟨j.a.congr e, j.r, j.ne, j.bel⟩
theorem Lz.next {w W W' : World} {g : Nat} {f : Nat → Nat} (j : Lz w W g f) (b : Below W.heap.size W W') : Lz w W' g f := ⟨j.a.below b, (b.block _ (lt_heap j.r)).trans j.r, j.ne, below_next j.bel b⟩
/-- And another number beside it. -/
structure Ly (w W : World) (g g2 n : Nat) (f : Nat → Nat) : Prop where
  z : Lz w W g f
  b : Ni W g2 180 40 (dg 256 n)
  ne : g < g2
theorem Ly.set {w W : World} {g g2 n : Nat} {f : Nat → Nat} (j : Ly w W g g2 n f) (i x : Nat) {f' : Nat → Nat} (e : ∀ k, k < 40 → (if k = i then x else f k) = f' k) : Ly w (W.setCell ⟨g, i, none⟩ (.int .i64 ((x : Nat) : Int))) g g2 n f' := by
  have n1 := j.z.ne
  have n2 := j.ne
  exact ⟨⟨(j.z.a.set i x).congr e, (Below.heap_setCell _ _ _ _ (by simp <;> omega)).trans j.z.r, n1, j.z.bel.setCell (by simp <;> omega) _⟩, j.b.other (by omega) _ _, n2⟩
theorem Ly.drew {w W : World} {g g2 n : Nat} {f : Nat → Nat} (j : Ly w W g g2 n f) : Ly w W.drew g g2 n f := ⟨⟨j.z.a, j.z.r, j.z.ne, j.z.bel.drew⟩, j.b, j.ne⟩
theorem cyB_both (m n i : Nat) : dg 256 (m + n) i + 256 * cyB m n (i + 1) = dg 256 m i + dg 256 n i + cyB m n i := by
  have h1 := cyB_dig m n i
  have h2 := cyB_step m n i
  omega
section
set_option maxRecDepth 10000
set_option maxHeartbeats 8000000
theorem rclaims_any (v : Value) (L : List Hd) (hL : L.length ≤ 1000000) (w : World) (hv : LX KHr2 w v L) (hK : Kg w) : Calls Tryz.prog 24 #[v] w fun e w' => e = .returned (.tuple #[.agg (wn (clm L).1), .int .i64 (clm L).2.1, .int .i64 (clm L).2.2]) ∧ Below w.heap.size w w' := by
  have r2 := heap_alloc_last w (.cells (wn 0) 50)
  have R2 := hide r2
  have b1 := (Below.refl w.heap.size w).alloc (Nat.le_refl _) (.cells (wn 0) 50)
  have B1 := hide b1
  obtain ⟨ao, cap, rfl⟩ := hv.form
  have HV := hide hv
  have HLe := hide hL
  have HK1 := hide (rlinked_any _ L hL _ (hv.below b1) (hK.next b1))
  have HWk := hide (fun (x : Hd) W => workN_any x.bits.toNat x.bits.toNat_lt W)
  have HMt := hide (fun (x : Hd) W => rhmeets_any x W)
  have HWo := hide words_any
  have CL : Hid (clm L = match cb1 L (lkN L) L.length 0 with | some (i, e) => (0, (i : Int), e) | none => clm2 L) := rfl
  have CL2 : Hid (clm2 L = match cb2 L L.length 0 with | some i => (0, (i : Int), 1) | none => (sw L L.length, 0, 0)) := rfl
  have SWE := hide (sw_eq L L.length)
  have AP := hide (lkN_lt L)
  have ZW := hide (And.intro (wn_size 0) (wn_one 0))
  have NZ := hide (And.intro (bn_size 0) (bn_one 0))
  clear hv hL hK b1 r2
  generalize lkN L = ap at *
  generalize clm L = CM at *
  generalize clm2 L = CM2 at *
  go_enter Tryz.func24, Tryz.ntmps24
  go_upto_region 1 with ((with_reducible refine at_list ?_); refine wpList_allocA AR rfl rfl ?_)
  generalize w.alloc (.cells (wn 0) 50) = W0 at *
  go_upto_region 2 with (go_at_call 27; refine HK1.out.mono ?_; rintro e W1 ⟨rfl, be⟩; have D1 := hide be; clear be)
  have J0 : Hid (Below w.heap.size w W1 ∧ W1.heap[w.heap.size]? = some (.cells (wn 0) 50 (0, 0))) := ⟨below_next B1.out D1.out, (D1.out.block _ (lt_heap R2.out)).trans R2.out⟩
  clear D1 R2 B1 HK1
  go_wp2
  go_loopw [6] (fun i wr => ∃ k : Nat, k ≤ L.length ∧ i = .int .i64 (k : Int) ∧ (ap < 0 ∨ (k : Int) ≤ ap) ∧ Hid (cb1 L ap L.length 0 = cb1 L ap (L.length - k) k) ∧ Hid (Below w.heap.size w wr ∧ wr.heap[w.heap.size]? = some (.cells (wn 0) 50 (0, 0)))) (fun i _ => (L.length - intOf i).toNat)
  case atStart => exact ⟨0, Nat.zero_le _, rfl, by rcases AP.out with h | ⟨h, _⟩ <;> omega, rfl, J0⟩
  case round =>
    clear J0
    obtain ⟨k, hk, rfl, hap, C1, J⟩ := hrel
    by_cases hgo : k < L.length ∧ (ap < 0 ∨ (k : Int) < ap)
    · obtain ⟨hlt, hgo⟩ := hgo
      obtain ⟨g, off, rfl⟩ := HV.out.base (by omega)
      have r1 : w.rangeAt g (off + k * 68) L[k].cells := HV.out.range k hlt
      have gl := HV.out.lt (by omega)
      have d1 : L.getD k zHd = L[k] := by simp [List.getD, hlt]
      have hne : ¬ (k : Int) = ap := by omega
      have C2 : Hid (cb1 L ap L.length 0 = if okB L[k].bits.toNat = true then cb1 L ap (L.length - (k + 1)) (k + 1) else some (k, 50)) := by
        show _ = _
        rw [C1.out, show L.length - k = (L.length - (k + 1)) + 1 by omega, cb1, d1, if_neg hne]
      have RR := L[k].bits0 (rangeX_below r1 J.out.1 gl)
      have HW1 := hide (HWk.out L[k])
      have x1 : (k : Int) < (L.length : Int) := by omega
      have x2 : (0 : Int) ≤ (k : Int) := by omega
      have x6 : IntKind.i64.wrap ((k : Int) + 1) = (k : Int) + 1 := wrapI _ (by omega) (by have := HLe.out; omega)
      have MS := hide hlt
      have MA : Hid (ap < 0 ∨ ((k + 1 : Nat) : Int) ≤ ap) := by show _ ∨ _; omega
      clear d1 r1 gl hk C1 hne hap
      generalize L[k] = X at *
      generalize hNB : X.bits.toNat = NB at *
      have WZ := hide (And.intro (bn_size (wk NB)) (bn_one (wk NB)))
      generalize wk NB = WX at *
      clear hlt hNB
      have key : Hid (∀ ok : Bool, okB NB = ok → (ok = true → cb1 L ap L.length 0 = cb1 L ap (L.length - (k + 1)) (k + 1)) ∧ (ok = false → CM = (0, (k : Int), 50))) := fun ok ho => by
        have c := C2.out
        rw [ho] at c
        refine ⟨fun e => by rw [e, if_pos rfl] at c; exact c, fun e => ?_⟩
        rw [e, if_neg (by decide)] at c
        have cc := CL.out
        rw [c] at cc
        exact cc
      have KY := hide (key.out _ rfl)
      clear C2 key
      generalize okB NB = ok at *
      have hga : (ap < 0) ∨ (¬ ap < 0 ∧ (k : Int) < ap) := by omega
      clear hgo
      rcases hga with g1 | ⟨g1, g2⟩
      all_goals
        go_upto_region 6 with (first | (go_at_call 88; refine (HW1.out _).mono ?_; rintro e W4 ⟨rfl, be⟩; have D4 := hide be; clear be) | ((with_reducible refine at_list ?_); first | refine wpList_allocA AN rfl rfl ?_ | refine wpList_store_newA AN rfl _ _ rfl _ rfl (bn WX) WZ.out.1 WZ.out.2 rfl rfl ?_))
        have D5 := hide (below_next D4.out ((Below.refl W4.heap.size W4).alloc (Nat.le_refl _) (.cells (bn WX) 180)))
        generalize W4.alloc (.cells (bn WX) 180) = W5 at *
        have R20 := hide ((D5.out.block _ (lt_heap J.out.2)).trans J.out.2)
        cases ok
        · have E1 := hide (KY.out.2 rfl)
          clear KY
          go_wp2_with ((with_reducible refine at_list ?_); first | refine wpList_buildA AR rfl rfl ?_ | refine wpList_storeA AR rfl _ _ rfl w.heap.size (wn 0) ZW.out.1 ZW.out.2 rfl rfl (wn 0) ZW.out.1 50 R20.out ?_)
          exact bodyPost_ret (v := .tuple #[.agg (wn 0), .int .i64 (k : Int), .int .i64 50]) (resA3K AR Tryz.results24 _ _ w.heap.size 50 _ ZW.out.1 rfl (setRow_heap _ _ _ _ _ _ R20.out) _ rfl _ rfl) rfl ⟨by rw [E1.out], below_setRow (below_next J.out.1 D5.out) (Nat.le_refl _) _⟩
        · have E1 := hide (KY.out.1 rfl)
          clear KY
          go_wp2
          exact ⟨⟨k + 1, MS.out, by go_num, MA.out, E1.out, below_next J.out.1 D5.out, R20.out⟩, by have := MS.out; simp [intOf]; omega⟩
    · rcases AP.out with an | ⟨an, al⟩
      · have e9 : k = L.length := by
          rcases Nat.lt_or_ge k L.length with h | h
          · exact absurd ⟨h, .inl an⟩ hgo
          · omega
        have C3 : Hid (CM = CM2) := by
          have c := CL.out
          rw [C1.out, show L.length - k = 0 by omega] at c
          exact c
        have x1 : ¬ (k : Int) < (L.length : Int) := by omega
        have x3 : ¬ (0 : Int) ≤ ap := by omega
        have x4 : decide (ap ≥ 0) = false := decide_eq_false x3
        subst e9
        clear hk hap hgo C1 CL
        go_upto_region 10 with fail
        go_upto_region 11 with (first | refine wpList_allocA AN rfl rfl ?_ | refine wpList_buildA AN rfl rfl ?_ | refine wpList_store_newA AN rfl _ _ rfl _ rfl (bn 0) (bn_size _) (bn_one _) rfl rfl ?_)
        have b3 := (Below.refl wr.heap.size wr).alloc (Nat.le_refl _) (.cells (bn 0) 180)
        have J1 : Hid (Lz w (wr.alloc (.cells (bn 0) 180)) wr.heap.size (dg 256 (swN L 0))) := ⟨Ni.of_heap (heap_alloc_last wr _), (b3.block _ (lt_heap J.out.2)).trans J.out.2, lt_heap J.out.2, below_next J.out.1 b3⟩
        clear b3 J x1 x3 x4
        generalize wr.alloc (.cells (bn 0) 180) = W2 at *
        generalize wr.heap.size = g9 at *
        go_upto_region 12 with fail
        go_loopw [10] (fun i wr2 => ∃ k : Nat, k ≤ L.length ∧ i = .int .i64 (k : Int) ∧ Hid (cb2 L L.length 0 = cb2 L (L.length - k) k) ∧ Hid (Lz w wr2 g9 (dg 256 (swN L k)))) (fun i _ => (L.length - intOf i).toNat)
        case atStart => exact ⟨0, Nat.zero_le _, rfl, rfl, J1⟩
        case round =>
          clear J1
          obtain ⟨k, hk, rfl, C1, J⟩ := hrel
          by_cases hlt : k < L.length
          · obtain ⟨g, off, rfl⟩ := HV.out.base (by omega)
            have r1 : w.rangeAt g (off + k * 68) L[k].cells := HV.out.range k hlt
            have gl := HV.out.lt (by omega)
            have d1 : L.getD k zHd = L[k] := by simp [List.getD, hlt]
            have C2 : Hid (cb2 L L.length 0 = if L[k].meets = true then cb2 L (L.length - (k + 1)) (k + 1) else some k) := by
              show _ = _
              rw [C1.out, show L.length - k = (L.length - (k + 1)) + 1 by omega, cb2, d1]
            have S2 : Hid (swN L (k + 1) = swN L k + wk L[k].bits.toNat) := by
              show _ = _
              rw [swN, d1]
            have RR : Hid (∀ W, Below w.heap.size w W → W.rangeAt g (off + k * 68) L[k].cells) := fun W b => rangeX_below r1 b gl
            have HM1 := hide (HMt.out L[k])
            have HW1 := hide (HWk.out L[k])
            have x1 : (k : Int) < (L.length : Int) := by omega
            have x2 : (0 : Int) ≤ (k : Int) := by omega
            have x6 : IntKind.i64.wrap ((k : Int) + 1) = (k : Int) + 1 := wrapI _ (by omega) (by have := HLe.out; omega)
            have MS := hide hlt
            clear d1 r1 gl hk C1
            generalize L[k] = X at *
            clear hlt
            have R0 := hide (RR.out _ J.out.bel)
            cases hV : X.meets
            · have E1 : Hid (CM = (0, (k : Int), 1)) := by
                have := C2.out
                rw [hV, if_neg (by decide)] at this
                have c := CL2.out
                rw [this] at c
                exact C3.out.trans c
              have HM2 := HM1.out
              rw [hV] at HM2
              have HM3 := hide HM2
              clear HM2 HM1 C2 hV S2 HW1
              go_upto_region 15 with (first | (go_at_call 89; refine (HM3.out _).mono ?_; rintro e W4 ⟨rfl, be⟩; have D4 := hide be; clear be) | ((with_reducible refine at_list ?_); refine wpLoadHr15 _ rfl g (off + k * 68) rfl X R0.out (by rfl) ?_))
              have R20 := hide ((D4.out.block _ (lt_heap J.out.r)).trans J.out.r)
              go_wp2_with ((with_reducible refine at_list ?_); first | refine wpList_buildA AR rfl rfl ?_ | refine wpList_storeA AR rfl _ _ rfl w.heap.size (wn 0) ZW.out.1 ZW.out.2 rfl rfl (wn 0) ZW.out.1 50 R20.out ?_)
              exact bodyPost_ret (v := .tuple #[.agg (wn 0), .int .i64 (k : Int), .int .i64 1]) (resA3K AR Tryz.results24 _ _ w.heap.size 50 _ ZW.out.1 rfl (setRow_heap _ _ _ _ _ _ R20.out) _ rfl _ rfl) rfl ⟨by rw [E1.out], below_setRow (below_next J.out.bel D4.out) (Nat.le_refl _) _⟩
            · have C4 : Hid (cb2 L L.length 0 = cb2 L (L.length - (k + 1)) (k + 1)) := by
                have := C2.out
                rw [hV, if_pos rfl] at this
                exact this
              have HM2 := HM1.out
              rw [hV] at HM2
              have HM3 := hide HM2
              clear HM2 HM1 C2 hV
              go_upto_region 16 with (first | (go_at_call 89; refine (HM3.out _).mono ?_; rintro e W4 ⟨rfl, be⟩; have D4 := hide be; clear be) | ((with_reducible refine at_list ?_); refine wpLoadHr15 _ rfl g (off + k * 68) rfl X R0.out (by rfl) ?_))
              have J4 := hide (J.out.next D4.out)
              have BB := X.bits0 (RR.out _ J4.out.bel)
              clear D4 J R0 RR HM3
              generalize hNB : X.bits.toNat = NB at *
              have WZ := hide (And.intro (bn_size (wk NB)) (bn_one (wk NB)))
              generalize wk NB = WX at *
              generalize okB NB = ok at *
              clear hNB
              generalize hSK : swN L k = SK at *
              clear hSK
              go_upto_region 18 with (first | (go_at_call 88; refine (HW1.out _).mono ?_; rintro e W5 ⟨rfl, be⟩; have D5 := hide be; clear be) | ((with_reducible refine at_list ?_); first | refine wpList_allocA AN rfl rfl ?_ | refine wpList_store_newA AN rfl _ _ rfl _ rfl (bn WX) WZ.out.1 WZ.out.2 rfl rfl ?_))
              have b6 := (Below.refl W5.heap.size W5).alloc (Nat.le_refl _) (.cells (bn WX) 180)
              have J6 : Hid (Ly w (W5.alloc (.cells (bn WX) 180)) g9 W5.heap.size WX (mixd (SK + WX) SK 0)) := ⟨((J4.out.next D5.out).next b6).congr (fun j _ => mixd_zero (SK + WX) SK j), Ni.of_heap (heap_alloc_last W5 _), (J4.out.next D5.out).a.lt⟩
              clear b6 J4 D5 BB
              generalize W5.alloc (.cells (bn WX) 180) = W6 at *
              generalize W5.heap.size = g11 at *
              go_upto_region 19 with fail
              go_loopw [13, 14] (fun c d wr3 => ∃ i : Nat, i ≤ 40 ∧ c = .int .i64 ((cyB SK WX i : Nat) : Int) ∧ d = .int .i64 i ∧ Hid (Ly w wr3 g9 g11 WX (mixd (SK + WX) SK i))) (fun _ d _ => (40 - intOf d).toNat)
              case atStart => exact ⟨0, by omega, by rw [cyB_zero]; rfl, rfl, J6⟩
              case round =>
                clear J6
                obtain ⟨i, hi, rfl, rfl, J⟩ := hrel
                by_cases hlt : i < 40
                · have hi4 : (i : Int) < 40 := by omega
                  have i0 : (0 : Int) ≤ i := by omega
                  have ca := J.out.z.a.cell hlt
                  rw [mixd_at] at ca
                  have fa := J.out.z.a.fz i
                  have cb := J.out.b.cell hlt
                  have hst := cyB_both SK WX i
                  have hc := cyB_le SK WX i
                  have hc2 := cyB_le SK WX (i + 1)
                  have h1 := dg_lt (B := 256) (by decide) SK i
                  have h2 := dg_lt (B := 256) (by decide) WX i
                  have h3 := dg_lt (B := 256) (by decide) (SK + WX) i
                  have HR : Hid (∀ j, j < 40 → (if j = i then dg 256 (SK + WX) i else mixd (SK + WX) SK i j) = mixd (SK + WX) SK (i + 1) j) := fun j _ => mixd_step (SK + WX) SK i j
                  have hiw : IntKind.i64.wrap ((i : Int) + 1) = i + 1 := wrapI _ (by omega) (by omega)
                  obtain ⟨x, hx⟩ : ∃ x, x = dg 256 (SK + WX) i := ⟨_, rfl⟩
                  rw [← hx] at hst h3 HR
                  obtain ⟨y, hy⟩ : ∃ y, y = dg 256 WX i := ⟨_, rfl⟩
                  rw [← hy] at hst h2 cb
                  obtain ⟨z, hz⟩ : ∃ z, z = dg 256 SK i := ⟨_, rfl⟩
                  rw [← hz] at hst h1 ca
                  obtain ⟨c1, hc1⟩ : ∃ c1, c1 = cyB SK WX (i + 1) := ⟨_, rfl⟩
                  rw [← hc1] at hst hc2
                  have HC1 := hide hc1
                  generalize cyB SK WX i = c0 at *
                  clear hx hy hz hc1
                  have w1 : IntKind.i64.wrap ((z : Int) + (y : Int)) = ((z + y : Nat) : Int) := by rw [wrapI _ (by omega) (by omega)]; omega
                  obtain ⟨p, hp⟩ : ∃ p, p = z + y := ⟨_, rfl⟩
                  have w2 : IntKind.i64.wrap ((c0 : Int) + (p : Int)) = ((c0 + p : Nat) : Int) := by rw [wrapI _ (by omega) (by omega)]; omega
                  rw [← hp] at w1
                  obtain ⟨s, hs⟩ : ∃ s, s = c0 + p := ⟨_, rfl⟩
                  rw [← hs] at w2
                  have q1 : c1 < 9223372036854775808 := by omega
                  have q2 : x < 9223372036854775808 := by omega
                  have v6 : IntKind.i64.wrap (c1 : Int) = (c1 : Int) := wrapI _ (by omega) (by omega)
                  have v8 : IntKind.i64.wrap (x : Int) = (x : Int) := wrapI _ (by omega) (by omega)
                  have v1 : (s : Int) % 256 = (x : Int) := by omega
                  have v3 : (s : Int) / 256 = (c1 : Int) := by omega
                  have v2 : Int.tmod (s : Int) 256 = (x : Int) := by rw [Int.tmod_eq_emod_of_nonneg (Int.natCast_nonneg _)]; exact v1
                  have v4 : Int.tdiv (s : Int) 256 = (c1 : Int) := by rw [Int.tdiv_eq_ediv_of_nonneg (Int.natCast_nonneg _)]; exact v3
                  have LL := hide hlt
                  have v5 := w64n c1 q1
                  have v7 := w64n x q2
                  clear hlt hi hst hc hc2 h1 h2 h3 hp hs q1 q2
                  go_upto_region 21 with fail
                  go_region
                  go_wp2
                  have L4 := LL.out
                  exact ⟨⟨i + 1, by omega, by rw [← HC1.out], by go_num, hide (J.out.drew.set i x HR.out)⟩, by simp [intOf]; omega⟩
                · have hke : i = 40 := by omega
                  subst hke
                  have J7 : Hid (Lz w wr g9 (dg 256 (SK + WX))) := J.out.z.congr (mixd_end (SK + WX) SK)
                  clear hlt hi J
                  generalize cyB SK WX 40 = c at *
                  go_wp2
                  exact ⟨⟨k + 1, MS.out, by go_num, C4.out, by rw [S2.out]; exact J7.out⟩, by have := MS.out; simp [intOf]; omega⟩
          · have e9 : k = L.length := by omega
            have E1 : Hid (CM = (sw L L.length, 0, 0)) := by
              have := C1.out
              rw [show L.length - k = 0 by omega] at this
              have c := CL2.out
              rw [this] at c
              exact C3.out.trans c
            have x1 : ¬ (k : Int) < (L.length : Int) := by omega
            subst e9
            have H2 := hide J.out.a.heap
            have H3 := hide J.out.r
            have H4 := hide J.out.bel
            have EW : Hid (wn (swN L L.length) = wn (sw L L.length)) := by
              show _ = _
              rw [SWE.out, wn_mod]
            have SZ := hide (And.intro (wn_size (swN L L.length)) (wn_one (swN L L.length)))
            have SB := hide (bn_size (swN L L.length))
            have H2' : Hid (wr.heap[g9]? = some (.cells (bn (swN L L.length)) 180 (0, 0))) := H2.out
            clear H2 hlt hk C1 CL2 J SWE
            generalize swN L L.length = SN at *
            go_wp2_with (first | (go_at_call 90; refine (HWo.out SN _).mono ?_; rintro e W8 ⟨rfl, be⟩; have D8 := hide be; have R28 := hide ((be.block _ (lt_heap H3.out)).trans H3.out); clear be) | ((with_reducible refine at_list ?_); first | refine wpList_loadS AN _ rfl g9 rfl (bn SN) SB.out 180 H2'.out (by rfl) ?_ | refine wpList_storeA AR rfl _ _ rfl w.heap.size (wn SN) SZ.out.1 SZ.out.2 rfl rfl (wn 0) ZW.out.1 50 R28.out ?_))
            exact bodyPost_ret (v := .tuple #[.agg (wn SN), .int .i64 0, .int .i64 0]) (resA3K AR Tryz.results24 _ _ w.heap.size 50 _ SZ.out.1 rfl (setRow_heap _ _ _ _ _ _ R28.out) _ rfl _ rfl) rfl ⟨by rw [E1.out, EW.out], below_setRow (below_next H4.out D8.out) (Nat.le_refl _) _⟩
      · have e9 : (k : Int) = ap := by
          rcases Nat.lt_or_ge k L.length with h | h
          · rcases hap with h2 | h2
            · omega
            · rcases Int.lt_or_le (k : Int) ap with h3 | h3
              · exact absurd ⟨h, .inr h3⟩ hgo
              · omega
          · rcases hap with h2 | h2 <;> omega
        have E1 : Hid (CM = (0, (k : Int), 150)) := by
          have c := CL.out
          have hf : L.length - k = (L.length - (k + 1)) + 1 := by omega
          rw [C1.out, hf, cb1, if_pos e9] at c
          exact c
        have x1 : (k : Int) < (L.length : Int) := by omega
        have x0 : ¬ (k : Int) < 0 := by omega
        have x2 : (0 : Int) ≤ (k : Int) := by omega
        have x7 : ¬ (k : Int) < (k : Int) := by omega
        have R20 := hide J.out.2
        have BJ := hide J.out.1
        clear hap hgo C1 CL an al hk AP J
        subst e9
        go_wp2_with ((with_reducible refine at_list ?_); first | refine wpList_buildA AR rfl rfl ?_ | refine wpList_storeA AR rfl _ _ rfl w.heap.size (wn 0) ZW.out.1 ZW.out.2 rfl rfl (wn 0) ZW.out.1 50 R20.out ?_)
        exact bodyPost_ret (v := .tuple #[.agg (wn 0), .int .i64 (k : Int), .int .i64 150]) (resA3K AR Tryz.results24 _ _ w.heap.size 50 _ ZW.out.1 rfl (setRow_heap _ _ _ _ _ _ R20.out) _ rfl _ rfl) rfl ⟨by rw [E1.out], below_setRow BJ.out (Nat.le_refl _) _⟩
end
end Go.Proofs.YtofddbjnncgmlaaGreatDoor
namespace Go.Proofs.YtofddbjnncgmlaaGreatDoor
open Go.RowKit
open Go.Deep
set_option linter.unusedVariables false
/-- What the law makes of one header: it stands on the one ahead of it, if it is to be linked, and is mined. -/
def lkd (p : Option Hd) (b : Bool) (h : Hd) : Hd :=
  if b = true then
    let h1 : Hd := match p with | some q => ⟨h.ver, q.id, h.root, h.time, h.bits, h.nonce, q.id_len, h.hr⟩ | none => h
    (mineH ⟨h1.ver, h1.prev, h1.root, h1.time, 545259519, h1.nonce, h1.hp, h1.hr⟩ 100).1
  else h
/-- And of all of them. -/
def lkdL : Option Hd → List Hd → List Bool → List Hd
  | _, [], _ => []
  | p, h :: r, m => lkd p (m.headD false) h :: lkdL (some (lkd p (m.headD false) h)) r m.tail
theorem lkdL_len : ∀ (L : List Hd) (p : Option Hd) (m : List Bool), (lkdL p L m).length = L.length
  | [], _, _ => rfl
  | h :: r, p, m => by
    show (lkdL _ r m.tail).length + 1 = r.length + 1
    rw [lkdL_len r _ m.tail]
/-- The element k of it, by the one ahead of it. -/
theorem lkdL_at : ∀ (L : List Hd) (p : Option Hd) (m : List Bool) (k : Nat) (hk : k < L.length), (lkdL p L m)[k]'(by rw [lkdL_len]; exact hk) = lkd (match k with | 0 => p | j + 1 => (lkdL p L m)[j]?) (m.getD k false) L[k]
  | h :: r, p, m, 0, _ => by
    cases m <;> rfl
  | h :: r, p, m, k + 1, hk => by
    have ih := lkdL_at r (some (lkd p (m.headD false) h)) m.tail k (by simpa using hk)
    show (lkdL _ r m.tail)[k]'_ = _
    rw [ih]
    cases k with
    | zero => cases m <;> simp [lkdL]
    | succ j => cases m <;> simp [lkdL]
section
set_option maxRecDepth 10000
set_option maxHeartbeats 4000000
theorem lhead15_any (h : Hd) (w : World) : Calls Tryz.prog 22 #[.agg h.cells.toArray] w fun e w' => e = .returned (.agg h.cells.toArray) ∧ Below w.heap.size w w' := by
  have s1 : (w.alloc (.cells h.cells.toArray 48)).heap.size = w.heap.size + 1 := by simp
  have R1 := hide ((Below.heap_alloc _ (.cells zHd.cells.toArray 66) _ (lt_heap (heap_alloc_last w (.cells h.cells.toArray 48)))).trans (heap_alloc_last w (.cells h.cells.toArray 48)))
  have R2 := hide (heap_alloc_last (w.alloc (.cells h.cells.toArray 48)) (.cells zHd.cells.toArray 66))
  have B1 := hide (((Below.refl w.heap.size w).alloc (Nat.le_refl _) (.cells h.cells.toArray 48)).alloc (by rw [s1]; omega) (.cells zHd.cells.toArray 66))
  have rr := rowAt h.cells R1.out
  have c0 := h.ver0 rr
  have c3 := h.time0 rr
  have c4 := h.bits0 rr
  have c5 := h.nonce0 rr
  have rp := hide (h.prevR rr)
  have rq := hide (h.rootR rr)
  rw [Nat.zero_add] at c3 c4 c5 rp rq
  have HP := hide h.hp
  have HR := hide h.hr
  have BH := hide (bld_rHd h)
  have HZ := hide h.size
  have HA := hide h.all
  rw [s1] at R2
  clear rr
  generalize h.cells.toArray = C at *
  generalize (h.ver.toNat : Int) = v0 at *
  generalize (h.time.toNat : Int) = v3 at *
  generalize (h.bits.toNat : Int) = v4 at *
  generalize (h.nonce.toNat : Int) = v5 at *
  generalize h.prev = P at *
  generalize h.root = Q at *
  go_enter Tryz.func22, Tryz.ntmps22
  go_upto_region 1 with ((with_reducible refine at_list ?_); first | refine wpList_boxA rfl _ rfl C rfl ?_ | refine wpList_allocA AHr rfl rfl ?_)
  try rw [s1]
  clear s1
  generalize (w.alloc (.cells C 48)).alloc (.cells zHd.cells.toArray 66) = W0 at *
  go_wp2_with ((with_reducible refine at_list ?_); first | refine wpLoadH25 _ rfl w.heap.size 1 rfl P HP.out rp.out (by rfl) ?_ | refine wpLoadH25 _ rfl w.heap.size 33 rfl Q HR.out rq.out (by rfl) ?_ | refine wpList_bldX rfl _ rfl #[(0, .int .u32 v0), (1, .agg (hc P)), (2, .agg (hc Q)), (3, .int .u32 v3), (4, .int .u32 v4), (5, .int .u32 v5)] C (by simp only [List.map_toArray, List.map_cons, List.map_nil]; rfl) BH.out ?_ | refine wpList_storeA AHr rfl _ _ rfl (w.heap.size + 1) C HZ.out HA.out rfl rfl zHd.cells.toArray zHd.size 66 R2.out ?_)
  exact bodyPost_ret (v := .agg C) (resA AHr Tryz.results22 _ _ (w.heap.size + 1) 66 _ HZ.out rfl (setRow_heap _ _ _ _ _ _ R2.out)) rfl ⟨rfl, below_setRow B1.out (by omega) _⟩
end
end Go.Proofs.YtofddbjnncgmlaaGreatDoor
namespace Go.Proofs.YtofddbjnncgmlaaGreatDoor
open Go.RowKit
open Go.Deep
set_option linter.unusedVariables false
set_option linter.unusedSimpArgs false
/-- A list with Y in place of what stands at p. -/
def spl {β : Type} (F : List β) (p : Nat) (Y : List β) : List β := F.take p ++ (Y ++ F.drop (p + Y.length))
theorem spl_get {β : Type} (F : List β) (p : Nat) (Y : List β) (h : p + Y.length ≤ F.length) (i : Nat) : (spl F p Y)[i]? = if i < p then F[i]? else if i < p + Y.length then Y[i - p]? else F[i]? := by
  unfold spl
  have hl : (F.take p).length = p := by rw [List.length_take]; omega
  rw [List.getElem?_append, hl]
  by_cases h1 : i < p
  · rw [if_pos h1, if_pos h1, List.getElem?_take_of_lt h1]
  · rw [if_neg h1, if_neg h1, List.getElem?_append]
    by_cases h2 : i < p + Y.length
    · rw [if_pos (by omega), if_pos h2]
    · rw [if_neg (by omega), if_neg h2, List.getElem?_drop]
      congr 1
      omega
theorem spl_take {β : Type} (F : List β) (p n : Nat) (Y : List β) (h : p + Y.length ≤ n) (hn : n ≤ F.length) : (spl F p Y).take n = spl (F.take n) p Y := by
  refine List.ext_getElem? fun i => ?_
  have hl : (F.take n).length = n := by rw [List.length_take]; omega
  rw [spl_get _ _ _ (by rw [hl]; exact h)]
  by_cases h1 : i < n
  · rw [List.getElem?_take_of_lt h1, spl_get _ _ _ (by omega), List.getElem?_take_of_lt h1]
  · rw [List.getElem?_take_eq_none (by omega), List.getElem?_take_eq_none (by omega), if_neg (by omega), if_neg (by omega)]
theorem spl_len {β : Type} (F : List β) (p : Nat) (Y : List β) (h : p + Y.length ≤ F.length) : (spl F p Y).length = F.length := by
  unfold spl
  simp only [List.length_append, List.length_take, List.length_drop]
  omega
theorem spl_app_left {β : Type} (A B : List β) (p : Nat) (Y : List β) (h : p + Y.length ≤ A.length) : spl (A ++ B) p Y = spl A p Y ++ B := by
  unfold spl
  rw [List.take_append_of_le_length (by omega), List.drop_append_of_le_length (by omega)]
  simp only [List.append_assoc]
theorem spl_app_right {β : Type} (A B : List β) (p : Nat) (Y : List β) : spl (A ++ B) (A.length + p) Y = A ++ spl B p Y := by
  unfold spl
  rw [List.take_append, List.drop_append, List.take_of_length_le (by omega), List.drop_of_length_le (by omega), List.nil_append, show A.length + p - A.length = p by omega, show A.length + p + Y.length - A.length = p + Y.length by omega, List.append_assoc]
section
variable {α : Type} {E : Ek α}
theorem flatE_spl (L : List α) : ∀ (k : Nat) (hk : k < L.length) (x : α) (j : Nat) (Y : List Value), j + Y.length ≤ E.k → E.enc x = spl (E.enc L[k]) j Y → flatE E (L.set k x) = spl (flatE E L) (k * E.k + j) Y := by
  induction L with
  | nil => intro k hk; simp at hk
  | cons a r ih =>
    intro k hk x j Y hj hx
    cases k with
    | zero =>
      simp only [List.set_cons_zero, flatE_cons, Nat.zero_mul, Nat.zero_add]
      rw [spl_app_left _ _ _ _ (by rw [E.len]; exact hj), hx]
      rfl
    | succ k =>
      simp only [List.set_cons_succ, flatE_cons]
      rw [ih k (by simpa using hk) x j Y hj hx, show (k + 1) * E.k + j = (E.enc a).length + (k * E.k + j) by rw [E.len, Nat.succ_mul]; omega, spl_app_right]
theorem OX.setM {W : World} {g c : Nat} {L : List α} (h : OX E W (.slice (some ⟨g, 0, none⟩) L.length c) L) (k : Nat) (hk : k < L.length) (x : α) (j : Nat) (Y : List Value) (hj : j + Y.length ≤ E.k) (hx : E.enc x = spl (E.enc L[k]) j Y) : OX E (W.setCells g (k * E.k + j) Y) (.slice (some ⟨g, 0, none⟩) L.length c) (L.set k x) := by
  obtain ⟨hl, ⟨e, _⟩ | ⟨g', cap, cur, e, hb, hh, h1, h2, h3, h4⟩⟩ := h
  · cases e
  · cases e
    have hF : (flatE E L).length = L.length * E.k := hl
    have hp : k * E.k + j + Y.length ≤ L.length * E.k := by
      have : (k + 1) * E.k ≤ L.length * E.k := Nat.mul_le_mul_right _ hk
      rw [Nat.succ_mul] at this
      omega
    have hcs : L.length * E.k ≤ cur.toList.length := by
      have q : L.length * E.k ≤ cur.size := by
        rw [h3]
        exact Nat.mul_le_mul_right _ h1
      simpa using q
    have hsp : cur.toList = cur.toList.take (k * E.k + j) ++ ((cur.toList.drop (k * E.k + j)).take Y.length ++ cur.toList.drop (k * E.k + j + Y.length)) := by
      have e1 : cur.toList.drop (k * E.k + j + Y.length) = (cur.toList.drop (k * E.k + j)).drop Y.length := by rw [List.drop_drop]
      rw [e1, List.take_append_drop, List.take_append_drop]
    have hA : (cur.toList.take (k * E.k + j)).length = k * E.k + j := by rw [List.length_take]; omega
    have hX : ((cur.toList.drop (k * E.k + j)).take Y.length).length = Y.length := by rw [List.length_take, List.length_drop]; omega
    have hh2 : W.heap[g]? = some (.cells (cur.toList.take (k * E.k + j) ++ ((cur.toList.drop (k * E.k + j)).take Y.length ++ cur.toList.drop (k * E.k + j + Y.length))).toArray E.e (0, 0)) := by
      rw [← hsp, hh]
    have hr := row_setCells _ g E.e Y _ _ W hh2 hX
    rw [hA] at hr
    have hc : (cur.toList.take (k * E.k + j) ++ (Y ++ cur.toList.drop (k * E.k + j + Y.length))) = spl cur.toList (k * E.k + j) Y := rfl
    rw [hc] at hr
    refine ⟨by rw [flatE_spl L k hk x j Y hj hx, List.length_set, spl_len _ _ _ (by rw [hF]; exact hp)]; exact hl, .inr ⟨g, c, (spl cur.toList (k * E.k + j) Y).toArray, by rw [List.length_set], hb, hr, by rw [List.length_set]; exact h1, h2, ?_, ?_⟩⟩
    · rw [List.size_toArray, spl_len _ _ _ (by omega), Array.length_toList]
      exact h3
    · rw [List.length_set, spl_take _ _ _ _ hp hcs, h4, flatE_spl L k hk x j Y hj hx]
end
end Go.Proofs.YtofddbjnncgmlaaGreatDoor
