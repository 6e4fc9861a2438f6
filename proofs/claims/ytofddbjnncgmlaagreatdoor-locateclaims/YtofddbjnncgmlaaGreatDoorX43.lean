/- The contract of the document's FromWords. Work in one form; the contracts of Tries and Harder. Claims of headers: the program's: its contract. The contract of the document's Words. -/
import Derived.Test.YtofddbjnncgmlaaGreatDoorX42
import Derived.Test.YtofddbjnncgmlaaGreatDoorX22
import Derived.Test.YtofddbjnncgmlaaGreatDoorX21
import Derived.Test.YtofddbjnncgmlaaGreatDoorX40
namespace Go.Proofs.YtofddbjnncgmlaaGreatDoor
open Go.RowKit
open Go.Deep
/-- A number's words, an answer's place, and a row of bytes. -/
structure Fw (w W : World) (m : Nat) (f : Nat → Nat) : Prop where
  a : Nd W w.heap.size 50 4 (wd m)
  r : W.heap[w.heap.size + 1]? = some (.cells (bn 0) 180 (0, 0))
  o : Ni W (w.heap.size + 1 + 1) 180 40 f
  bel : Below w.heap.size w W
theorem Fw.start (w : World) (m : Nat) : Fw w (((w.alloc (.cells (wn m) 50)).alloc (.cells (bn 0) 180)).alloc (.cells (bn 0) 180)) m (dg 256 0) := by
  obtain ⟨e1, e2, e3⟩ := blk3 w (.cells (wn m) 50) (.cells (bn 0) 180) (.cells (bn 0) 180)
  exact ⟨Nd.of_heap e1, e2, Ni.of_heap e3, below3 w _ _ _⟩
theorem Fw.set {w W : World} {m : Nat} {f : Nat → Nat} (j : Fw w W m f) (i x : Nat) {f' : Nat → Nat} (e : ∀ k, k < 40 → (if k = i then x else f k) = f' k) : Fw w (W.setCell ⟨w.heap.size + 1 + 1, i, none⟩ (.int .i64 ((x : Nat) : Int))) m f' :=
  ⟨j.a.other (by omega) _ _, (Below.heap_setCell _ _ _ _ (by simp <;> omega)).trans j.r, (j.o.set i x).congr e, j.bel.setCell (by simp <;> omega) _⟩
theorem Fw.congr {w W : World} {m : Nat} {f f' : Nat → Nat} (j : Fw w W m f) (e : ∀ i, i < 40 → f i = f' i) : Fw w W m f' := ⟨j.a, j.r, j.o.congr e, j.bel⟩
theorem mixd_32 (m j : Nat) (hm : m < M) : mixd m 0 32 j = dg 256 m j := by
  unfold mixd
  split
  · rfl
  · rename_i h
    have e : M = 256 ^ 32 := by decide +kernel
    have h2 : 256 ^ 32 ≤ 256 ^ j := Nat.pow_le_pow_right (by decide) (by omega)
    rw [dg_zero, dg, Nat.div_eq_of_lt (by omega), Nat.zero_mod]
section
set_option maxRecDepth 10000
set_option maxHeartbeats 2000000
end
end Go.Proofs.YtofddbjnncgmlaaGreatDoor
namespace Go.Proofs.YtofddbjnncgmlaaGreatDoor
open Go.RowKit
open Go.Deep
/-- The work that bits ask for; 0, if they may not be. -/
def wk (a : Nat) : Nat := if okB a then 2 ^ 256 / (xt a + 1) else 0
theorem share_eq (T : Nat) (hT : T ≤ Lm) : (M - 1 - T) / (T + 1) + 1 = 2 ^ 256 / (T + 1) := by
  have hM : T + 1 ≤ M := Nat.lt_of_le_of_lt hT Lm_M
  rw [← M_pow]
  generalize M = mm at *
  rw [Nat.div_eq_sub_div (a := mm) (Nat.succ_pos T) hM, Nat.sub_sub, Nat.add_comm 1 T]
theorem xt_tgt (a : Nat) (h : okB a = true) : xt a = tgt a := by unfold xt; rw [h]; rfl
theorem wk_lt (a : Nat) : wk a < M := by
  unfold wk
  split
  · rename_i h
    have h2 := (okB_iff a).1 h
    rw [← xt_tgt a h] at h2
    rw [← M_pow]
    exact Nat.div_lt_self M_pos (by omega)
  · exact M_pos
theorem work_any (a : Nat) (ha : a < 4294967296) (w : World) : Calls Tryz.prog 54 #[.int .u32 (a : Int)] w fun e w' => e = .returned (.tuple #[.agg (wn (wk a)), .int .i64 (if okB a then 0 else 50)]) ∧ Below w.heap.size w w' := by
  cases h : okB a
  · have := work_no a ha h w
    unfold wk
    rw [h]
    exact this
  · have := work_yes a ha h w
    rw [← xt_tgt a h, share_eq _ (xt_le a)] at this
    unfold wk
    rw [h]
    exact this
theorem workN_any (a : Nat) (ha : a < 4294967296) (w : World) : Calls Tryz.prog 88 #[.int .u32 (a : Int)] w fun e w' => e = .returned (.tuple #[.agg (bn (wk a)), .bool (okB a)]) ∧ Below w.heap.size w w' := by
  cases h : okB a
  · have := workN_no a ha h w
    unfold wk
    rw [h]
    exact this
  · have := workN_yes a ha h w
    unfold wk
    rw [h]
    exact this
/-- How many tries bits ask for. -/
def trs (a : Nat) : Nat := if wk a < 18446744073709551616 then wk a else 18446744073709551615
theorem harder_wk (a b : Nat) (h1 : okB a = true) (h2 : okB b = true) (h : xt a < xt b) : ¬ wk a < wk b := by
  unfold wk
  rw [h1, h2, if_pos rfl, if_pos rfl]
  exact Nat.not_lt.2 (Nat.div_le_div_left (by omega) (by omega))
section
set_option maxRecDepth 10000
set_option maxHeartbeats 2000000
end
end Go.Proofs.YtofddbjnncgmlaaGreatDoor
namespace Go.Proofs.YtofddbjnncgmlaaGreatDoor
open Go.RowKit
open Go.Deep
open Go.Maps
set_option linter.unusedVariables false
set_option linter.unusedSimpArgs false
/-- The first place that is wrong by what it stands on, or by its bits; with the error. -/
def cb1 (L : List Hd) (ap : Int) : Nat → Nat → Option (Nat × Int)
  | 0, _ => none
  | f + 1, i => if (i : Int) = ap then some (i, 150) else if okB (L.getD i zHd).bits.toNat = true then cb1 L ap f (i + 1) else some (i, 50)
/-- The first place that does not meet its target. -/
def cb2 (L : List Hd) : Nat → Nat → Option Nat
  | 0, _ => none
  | f + 1, i => if (L.getD i zHd).meets = true then cb2 L f (i + 1) else some i
/-- The works of the first ones. -/
def sw (L : List Hd) : Nat → Nat
  | 0 => 0
  | k + 1 => (sw L k + wk (L.getD k zHd).bits.toNat) % M
def clm2 (L : List Hd) : Nat × Int × Int := match cb2 L L.length 0 with
  | some i => (0, (i : Int), 1)
  | none => (sw L L.length, 0, 0)
def clm (L : List Hd) : Nat × Int × Int := match cb1 L (lkN L) L.length 0 with
  | some (i, e) => (0, (i : Int), e)
  | none => clm2 L
theorem sw_lt (L : List Hd) : ∀ k, sw L k < M
  | 0 => M_pos
  | _ + 1 => Nat.mod_lt _ M_pos
def two14 (a b : Nat) : Array Value := ((wn a).toList ++ (wn b).toList).toArray
theorem bs_w2 (a b : Nat) (W : World) : (Instr.buildSlice 321 2 #[(0, .agg (wn a)), (1, .agg (wn b))]).run Tryz.prog W = .ok (.slice (some ⟨W.heap.size, 0, none⟩) 2 2) (W.alloc (.cells (two14 a b) 51)) := by kernel_rfl
theorem wds2 {W : World} {g a b : Nat} (ha : a < M) (hb : b < M) (h : W.heap[g]? = some (.cells (two14 a b) 51 (0, 0))) : Wds W (some ⟨g, 0, none⟩) 2 (fun i => if i = 0 then a else b) := fun i hi => by
  have hr := rowAt _ h
  have hl := lt_heap h
  have e : i = 0 ∨ i = 1 := by omega
  rcases e with rfl | rfl
  · refine ⟨ha, g, 0, rfl, hl, fun j v hv => ?_⟩
    have hv2 : (wn a).toList[j]? = some v := hv
    have := hr j v (by rw [List.getElem?_append_left (List.getElem?_eq_some_iff.1 hv2).1]; exact hv2)
    simpa using this
  · refine ⟨hb, g, 0, rfl, hl, fun j v hv => ?_⟩
    have hv2 : (wn b).toList[j]? = some v := hv
    have := hr (4 + j) v (by rw [List.getElem?_append_right (by rw [wn_len]; omega), wn_len, show 4 + j - 4 = j by omega]; exact hv2)
    rw [show 0 + 1 * 4 + j = 0 + (4 + j) by omega]
    exact this
section
set_option maxRecDepth 10000
set_option maxHeartbeats 8000000
theorem sum2 (a b : Nat) (ha : a < M) (hb : b < M) (g : Nat) (W : World) (h : W.heap[g]? = some (.cells (two14 a b) 51 (0, 0))) : Calls Tryz.prog 86 #[.slice (some ⟨g, 0, none⟩) 2 2] W fun e w' => ∃ c, e = .returned (.tuple #[.agg (wn ((a + b) % M)), .bool c]) ∧ Below W.heap.size W w' := by
  have := sumW_any (some ⟨g, 0, none⟩) 2 2 (fun i => if i = 0 then a else b) W (by omega) (wds2 ha hb h)
  rw [show ss (fun i => if i = 0 then a else b) 2 = (a + b) % M by show ((0 + a) % M + b) % M = _; rw [Nat.zero_add, Nat.mod_eq_of_lt ha]] at this
  exact this.mono fun e w' ⟨h1, h2⟩ => ⟨_, h1, h2⟩
theorem claims_any (v : Value) (L : List Hd) (hL : L.length ≤ 1000000) (w : World) (hv : LX KHe w v L) (hK : Kg w) : Calls Tryz.prog 23 #[v] w fun e w' => e = .returned (.tuple #[.agg (wn (clm L).1), .int .i64 (clm L).2.1, .int .i64 (clm L).2.2]) ∧ Below w.heap.size w w' := by
  have r2 := heap_alloc_last w (.cells (wn 0) 51)
  have R2 := hide r2
  have b1 := (Below.refl w.heap.size w).alloc (Nat.le_refl _) (.cells (wn 0) 51)
  have B1 := hide b1
  obtain ⟨ao, cap, rfl⟩ := hv.form
  have HV := hide hv
  have HLe := hide hL
  have KS : Hid (∀ W, Below w.heap.size w W → Kg W) := fun W b => hK.next b
  have HK1 := hide (linked_any _ L hL _ (hv.below b1) (hK.next b1))
  have HWk := hide (fun (x : Hd) W => work_any x.bits.toNat x.bits.toNat_lt W)
  have HMt : Hid (∀ (x : Hd) W, Kg W → Calls Tryz.prog 87 #[.agg x.cells.toArray] W fun e w' => e = .returned (.bool x.meets) ∧ Below W.heap.size W w') := fun x W q => hmeets_any x W q
  have CL : Hid (clm L = match cb1 L (lkN L) L.length 0 with | some (i, e) => (0, (i : Int), e) | none => clm2 L) := rfl
  have CL2 : Hid (clm2 L = match cb2 L L.length 0 with | some i => (0, (i : Int), 1) | none => (sw L L.length, 0, 0)) := rfl
  have ZW := hide (And.intro (wn_size 0) (wn_one 0))
  clear hv hL hK b1 r2
  generalize lkN L = ap at *
  generalize clm L = CM at *
  generalize clm2 L = CM2 at *
  go_enter Tryz.func23, Tryz.ntmps23
  go_upto_region 1 with ((with_reducible refine at_list ?_); refine wpList_allocA AW rfl rfl ?_)
  generalize w.alloc (.cells (wn 0) 51) = W0 at *
  go_upto_region 3 with (first | (go_at_call 26; refine HK1.out.mono ?_; rintro e W1 ⟨rfl, be⟩; have D1 := hide be; clear be) | ((with_reducible refine at_list ?_); refine wpList_allocA AW rfl rfl ?_))
  have b2 := (Below.refl W1.heap.size W1).alloc (Nat.le_refl _) (.cells (wn 0) 51)
  have J0 : Hid (Below w.heap.size w (W1.alloc (.cells (wn 0) 51)) ∧ (W1.alloc (.cells (wn 0) 51)).heap[w.heap.size]? = some (.cells (wn 0) 51 (0, 0)) ∧ (W1.alloc (.cells (wn 0) 51)).heap[W1.heap.size]? = some (.cells (wn (sw L 0)) 51 (0, 0))) := ⟨below_next B1.out (below_next D1.out b2), ((below_next D1.out b2).block _ (lt_heap R2.out)).trans R2.out, heap_alloc_last W1 _⟩
  have NE : Hid (w.heap.size < W1.heap.size) := Nat.lt_of_lt_of_le (lt_heap R2.out) D1.out.size
  clear b2 D1 R2 B1 HK1
  generalize W1.alloc (.cells (wn 0) 51) = W2 at *
  generalize W1.heap.size = g6 at *
  go_wp2
  go_loopw [17] (fun i wr => ∃ k : Nat, k ≤ L.length ∧ i = .int .i64 (k : Int) ∧ Hid (cb1 L ap L.length 0 = cb1 L ap (L.length - k) k) ∧ Hid (Below w.heap.size w wr ∧ wr.heap[w.heap.size]? = some (.cells (wn 0) 51 (0, 0)) ∧ wr.heap[g6]? = some (.cells (wn (sw L k)) 51 (0, 0)))) (fun i _ => (L.length - intOf i).toNat)
  case atStart => exact ⟨0, Nat.zero_le _, rfl, rfl, J0⟩
  case round =>
    clear J0
    obtain ⟨k, hk, rfl, C1, J⟩ := hrel
    by_cases hlt : k < L.length
    · obtain ⟨g, off, rfl⟩ := HV.out.base (by omega)
      have r1 : w.rangeAt g (off + k * 68) L[k].cells := HV.out.range k hlt
      have gl := HV.out.lt (by omega)
      have d1 : L.getD k zHd = L[k] := by simp [List.getD, hlt]
      have C2 : Hid (cb1 L ap L.length 0 = if (k : Int) = ap then some (k, 150) else if okB L[k].bits.toNat = true then cb1 L ap (L.length - (k + 1)) (k + 1) else some (k, 50)) := by
        show _ = _
        rw [C1.out, show L.length - k = (L.length - (k + 1)) + 1 by omega, cb1, d1]
      have S2 : Hid (sw L (k + 1) = (sw L k + wk L[k].bits.toNat) % M) := by
        show _ = _
        rw [sw, d1]
      have SL := hide (sw_lt L k)
      have RR := hide (rangeX_below r1 J.out.1 gl)
      have CZ := hide (And.intro L[k].size L[k].all)
      have BX : Hid (∀ (W : World) (q : Nat), W.heap[q]? = some (.cells L[k].cells.toArray 48 (0, 0)) → W.cell? ⟨q, 66, none⟩ = some (.int .u32 (L[k].bits.toNat : Int))) := fun W q e => by
        have q1 := L[k].bits0 (rowAt _ e)
        rwa [Nat.zero_add] at q1
      have HW1 := hide (HWk.out L[k])
      have x1 : (k : Int) < (L.length : Int) := by omega
      have x2 : (0 : Int) ≤ (k : Int) := by omega
      have x6 : IntKind.i64.wrap ((k : Int) + 1) = (k : Int) + 1 := wrapI _ (by omega) (by have := HLe.out; omega)
      have MS := hide hlt
      clear d1 r1 gl hk C1
      generalize L[k] = X at *
      clear hlt
      go_upto_region 6 with ((with_reducible refine at_list ?_); first | refine wpLoadHd _ rfl g (off + k * 68) rfl X RR.out (by rfl) ?_ | refine wpList_allocA AHd rfl rfl ?_ | refine wpList_store_newA AHd rfl _ _ rfl _ rfl X.cells.toArray CZ.out.1 CZ.out.2 rfl rfl ?_)
      have b3 := (Below.refl wr.heap.size wr).alloc (Nat.le_refl _) (.cells X.cells.toArray 48)
      have R8 := hide (heap_alloc_last wr (.cells X.cells.toArray 48))
      have J3 : Hid (Below w.heap.size w (wr.alloc (.cells X.cells.toArray 48)) ∧ (wr.alloc (.cells X.cells.toArray 48)).heap[w.heap.size]? = some (.cells (wn 0) 51 (0, 0)) ∧ (wr.alloc (.cells X.cells.toArray 48)).heap[g6]? = some (.cells (wn (sw L k)) 51 (0, 0))) := ⟨below_next J.out.1 b3, (b3.block _ (lt_heap J.out.2.1)).trans J.out.2.1, (b3.block _ (lt_heap J.out.2.2)).trans J.out.2.2⟩
      clear b3 J RR
      generalize wr.alloc (.cells X.cells.toArray 48) = W3 at *
      generalize wr.heap.size = g8 at *
      by_cases hap : (k : Int) = ap
      · have E1 : Hid (CM = (0, (k : Int), 150)) := by
          have := C2.out
          rw [if_pos hap] at this
          have c := CL.out
          rw [this] at c
          exact c
        subst hap
        have R20 := hide J3.out.2.1
        clear C2
        go_wp2_with ((with_reducible refine at_list ?_); first | refine wpList_buildA AW rfl rfl ?_ | refine wpList_storeA AW rfl _ _ rfl w.heap.size (wn 0) ZW.out.1 ZW.out.2 rfl rfl (wn 0) ZW.out.1 51 R20.out ?_)
        exact bodyPost_ret (v := .tuple #[.agg (wn 0), .int .i64 (k : Int), .int .i64 150]) (resA3K AW Tryz.results23 _ _ w.heap.size 51 _ ZW.out.1 rfl (setRow_heap _ _ _ _ _ _ R20.out) _ rfl _ rfl) rfl ⟨by rw [E1.out], below_setRow J3.out.1 (Nat.le_refl _) _⟩
      · have hd : decide ((k : Int) = ap) = false := decide_eq_false hap
        have c66 := BX.out _ _ R8.out
        cases hok : okB X.bits.toNat
        · have E1 : Hid (CM = (0, (k : Int), 50)) := by
            have := C2.out
            rw [if_neg hap, hok, if_neg (by decide)] at this
            have c := CL.out
            rw [this] at c
            exact c
          have HW2 := HW1.out
          rw [hok] at HW2
          have HW3 := hide HW2
          have WZ := hide (And.intro (wn_size (wk X.bits.toNat)) (wn_one (wk X.bits.toNat)))
          clear C2 HW2 HW1 S2 hok
          generalize wk X.bits.toNat = WX at *
          generalize X.bits.toNat = NB at *
          go_upto_region 9 with (first | (go_at_call 54; refine (HW3.out _).mono ?_; rintro e W4 ⟨rfl, be⟩; have D4 := hide be; clear be) | ((with_reducible refine at_list ?_); first | refine wpList_allocA AW rfl rfl ?_ | refine wpList_store_newA AW rfl _ _ rfl _ rfl (wn WX) WZ.out.1 WZ.out.2 rfl rfl ?_))
          have D5 := hide (below_next D4.out ((Below.refl W4.heap.size W4).alloc (Nat.le_refl _) (.cells (wn WX) 51)))
          generalize W4.alloc (.cells (wn WX) 51) = W5 at *
          have R20 := hide ((D5.out.block _ (lt_heap J3.out.2.1)).trans J3.out.2.1)
          clear c66
          go_wp2_with ((with_reducible refine at_list ?_); first | refine wpList_buildA AW rfl rfl ?_ | refine wpList_storeA AW rfl _ _ rfl w.heap.size (wn 0) ZW.out.1 ZW.out.2 rfl rfl (wn 0) ZW.out.1 51 R20.out ?_)
          exact bodyPost_ret (v := .tuple #[.agg (wn 0), .int .i64 (k : Int), .int .i64 50]) (resA3K AW Tryz.results23 _ _ w.heap.size 51 _ ZW.out.1 rfl (setRow_heap _ _ _ _ _ _ R20.out) _ rfl _ rfl) rfl ⟨by rw [E1.out], below_setRow (below_next J3.out.1 D5.out) (Nat.le_refl _) _⟩
        · have C3 : Hid (cb1 L ap L.length 0 = cb1 L ap (L.length - (k + 1)) (k + 1)) := by
            have := C2.out
            rw [if_neg hap, hok, if_pos rfl] at this
            exact this
          have HW2 := HW1.out
          rw [hok] at HW2
          have HW3 := hide HW2
          have WZ := hide (And.intro (wn_size (wk X.bits.toNat)) (wn_one (wk X.bits.toNat)))
          have WL := hide (wk_lt X.bits.toNat)
          clear C2 HW2 HW1 hok
          generalize wk X.bits.toNat = WX at *
          generalize X.bits.toNat = NB at *
          go_upto_region 11 with (first | (go_at_call 54; refine (HW3.out _).mono ?_; rintro e W4 ⟨rfl, be⟩; have D4 := hide be; clear be) | ((with_reducible refine at_list ?_); first | refine wpList_allocA AW rfl rfl ?_ | refine wpList_store_newA AW rfl _ _ rfl _ rfl (wn WX) WZ.out.1 WZ.out.2 rfl rfl ?_))
          have b5 := (Below.refl W4.heap.size W4).alloc (Nat.le_refl _) (.cells (wn WX) 51)
          have D5 := hide (below_next D4.out b5)
          have R9 := hide (heap_alloc_last W4 (.cells (wn WX) 51))
          clear b5 D4 c66
          generalize W4.alloc (.cells (wn WX) 51) = W5 at *
          generalize W4.heap.size = g9 at *
          have R20 := hide ((D5.out.block _ (lt_heap J3.out.2.1)).trans J3.out.2.1)
          have R60 := hide ((D5.out.block _ (lt_heap J3.out.2.2)).trans J3.out.2.2)
          have B50 := hide (below_next J3.out.1 D5.out)
          have SW0 := hide (And.intro (wn_size (sw L k)) (And.intro (wn_size ((sw L k + WX) % M)) (wn_one ((sw L k + WX) % M))))
          clear J3 D5 R8 BX
          generalize hsk : sw L k = SK at *
          go_wp2_with (first | (go_at_call 86; refine (sum2 SK WX SL.out WL.out _ _ (heap_alloc_last W5 _)).mono ?_; rintro e W6 ⟨cc, rfl, be⟩; have D6 := hide (below_next ((Below.refl W5.heap.size W5).alloc (Nat.le_refl _) (.cells (two14 SK WX) 51)) be); have R6b := hide ((D6.out.block _ (lt_heap R60.out)).trans R60.out); clear be) | ((with_reducible refine at_list ?_); first | refine wpList_loadS AW _ rfl g6 rfl (wn SK) SW0.out.1 51 R60.out (by rfl) ?_ | refine wpList_loadS AW _ rfl g9 rfl (wn WX) WZ.out.1 51 R9.out (by rfl) ?_ | refine wp_bs14 rfl _ _ _ rfl #[(0, .agg (wn SK)), (1, .agg (wn WX))] (by simp only [List.map_toArray, List.map_cons, List.map_nil]; rfl) _ _ (bs_w2 SK WX _) ?_ | refine wpList_storeA AW rfl _ _ rfl g6 (wn ((SK + WX) % M)) SW0.out.2.1 SW0.out.2.2 rfl rfl (wn SK) SW0.out.1 51 R6b.out ?_))
          go_round
          case rel =>
            exact ⟨k + 1, MS.out, by go_num, C3.out, below_setRow (below_next B50.out D6.out) (by have := NE.out; omega) _, (setRow_other _ _ _ _ (by have := NE.out; omega)).trans ((D6.out.block _ (lt_heap R20.out)).trans R20.out), by rw [S2.out]; exact setRow_heap _ _ _ _ _ _ R6b.out⟩
          case measure => have := MS.out; simp [intOf]; omega
    · have e9 : k = L.length := by omega
      have C3 : Hid (CM = CM2) := by
        have c := CL.out
        rw [C1.out, show L.length - k = 0 by omega] at c
        exact c
      have x1 : ¬ (k : Int) < (L.length : Int) := by omega
      subst e9
      have J1 := hide J.out
      clear hlt hk C1 CL J
      go_upto_region 13 with fail
      clear x1
      go_upto_region 14 with fail
      go_loopw [48] (fun i wr2 => ∃ k : Nat, k ≤ L.length ∧ i = .int .i64 (k : Int) ∧ Hid (cb2 L L.length 0 = cb2 L (L.length - k) k) ∧ Hid (Below w.heap.size w wr2 ∧ wr2.heap[w.heap.size]? = some (.cells (wn 0) 51 (0, 0)) ∧ wr2.heap[g6]? = some (.cells (wn (sw L L.length)) 51 (0, 0)))) (fun i _ => (L.length - intOf i).toNat)
      case atStart => exact ⟨0, Nat.zero_le _, rfl, rfl, J1⟩
      case round =>
        clear J1
        obtain ⟨k, hk, rfl, C1, J⟩ := hrel
        by_cases hlt : k < L.length
        · obtain ⟨g, off, rfl⟩ := HV.out.base (by omega)
          have r1 : w.rangeAt g (off + k * 68) L[k].cells := HV.out.range k hlt
          have gl := HV.out.lt (by omega)
          have d1 : L.getD k zHd = L[k] := by simp [List.getD, hlt]
          have C2 : Hid (cb2 L L.length 0 = if L[k].meets = true then cb2 L (L.length - (k + 1)) (k + 1) else some k) := by
            show _ = _
            rw [C1.out, show L.length - k = (L.length - (k + 1)) + 1 by omega, cb2, d1]
          have RR := hide (rangeX_below r1 J.out.1 gl)
          have CZ := hide (And.intro L[k].size L[k].all)
          have HM1 := hide (HMt.out L[k])
          have x1 : (k : Int) < (L.length : Int) := by omega
          have x2 : (0 : Int) ≤ (k : Int) := by omega
          have x6 : IntKind.i64.wrap ((k : Int) + 1) = (k : Int) + 1 := wrapI _ (by omega) (by have := HLe.out; omega)
          have MS := hide hlt
          clear d1 r1 gl hk C1
          generalize L[k] = X at *
          clear hlt
          go_upto_region 16 with ((with_reducible refine at_list ?_); first | refine wpLoadHd _ rfl g (off + k * 68) rfl X RR.out (by rfl) ?_ | refine wpList_allocA AHd rfl rfl ?_ | refine wpList_store_newA AHd rfl _ _ rfl _ rfl X.cells.toArray CZ.out.1 CZ.out.2 rfl rfl ?_)
          have b3 := (Below.refl wr.heap.size wr).alloc (Nat.le_refl _) (.cells X.cells.toArray 48)
          have R8 := hide (heap_alloc_last wr (.cells X.cells.toArray 48))
          have J3 : Hid (Below w.heap.size w (wr.alloc (.cells X.cells.toArray 48)) ∧ (wr.alloc (.cells X.cells.toArray 48)).heap[w.heap.size]? = some (.cells (wn 0) 51 (0, 0)) ∧ (wr.alloc (.cells X.cells.toArray 48)).heap[g6]? = some (.cells (wn (sw L L.length)) 51 (0, 0))) := ⟨below_next J.out.1 b3, (b3.block _ (lt_heap J.out.2.1)).trans J.out.2.1, (b3.block _ (lt_heap J.out.2.2)).trans J.out.2.2⟩
          clear b3 J RR
          generalize wr.alloc (.cells X.cells.toArray 48) = W3 at *
          generalize wr.heap.size = g8 at *
          have SZ := hide (And.intro (wn_size (sw L L.length)) (wn_one (sw L L.length)))
          cases hV : X.meets
          · have E1 : Hid (CM = (0, (k : Int), 1)) := by
              have := C2.out
              rw [hV, if_neg (by decide)] at this
              have c := CL2.out
              rw [this] at c
              exact C3.out.trans c
            have HM2 := HM1.out
            rw [hV] at HM2
            have HM3 := hide HM2
            clear HM2 HM1 C2 hV
            go_upto_region 17 with (first | (go_at_call 87; refine (HM3.out _ (KS.out _ J3.out.1)).mono ?_; rintro e W4 ⟨rfl, be⟩; have D4 := hide be; clear be) | ((with_reducible refine at_list ?_); refine wpList_loadS AHd _ rfl g8 rfl X.cells.toArray CZ.out.1 48 R8.out (by rfl) ?_))
            have R20 := hide ((D4.out.block _ (lt_heap J3.out.2.1)).trans J3.out.2.1)
            go_wp2_with ((with_reducible refine at_list ?_); first | refine wpList_buildA AW rfl rfl ?_ | refine wpList_storeA AW rfl _ _ rfl w.heap.size (wn 0) ZW.out.1 ZW.out.2 rfl rfl (wn 0) ZW.out.1 51 R20.out ?_)
            exact bodyPost_ret (v := .tuple #[.agg (wn 0), .int .i64 (k : Int), .int .i64 1]) (resA3K AW Tryz.results23 _ _ w.heap.size 51 _ ZW.out.1 rfl (setRow_heap _ _ _ _ _ _ R20.out) _ rfl _ rfl) rfl ⟨by rw [E1.out], below_setRow (below_next J3.out.1 D4.out) (Nat.le_refl _) _⟩
          · have C4 : Hid (cb2 L L.length 0 = cb2 L (L.length - (k + 1)) (k + 1)) := by
              have := C2.out
              rw [hV, if_pos rfl] at this
              exact this
            have HM2 := HM1.out
            rw [hV] at HM2
            have HM3 := hide HM2
            clear HM2 HM1 C2 hV
            go_wp2_with (first | (go_at_call 87; refine (HM3.out _ (KS.out _ J3.out.1)).mono ?_; rintro e W4 ⟨rfl, be⟩; have D4 := hide be; clear be) | ((with_reducible refine at_list ?_); refine wpList_loadS AHd _ rfl g8 rfl X.cells.toArray CZ.out.1 48 R8.out (by rfl) ?_))
            exact ⟨⟨k + 1, MS.out, by go_num, C4.out, below_next J3.out.1 D4.out, (D4.out.block _ (lt_heap J3.out.2.1)).trans J3.out.2.1, (D4.out.block _ (lt_heap J3.out.2.2)).trans J3.out.2.2⟩, by have := MS.out; simp [intOf]; omega⟩
        · have e9 : k = L.length := by omega
          have E1 : Hid (CM = (sw L L.length, 0, 0)) := by
            have := C1.out
            rw [show L.length - k = 0 by omega] at this
            have c := CL2.out
            rw [this] at c
            exact C3.out.trans c
          have x1 : ¬ (k : Int) < (L.length : Int) := by omega
          have SZ := hide (And.intro (wn_size (sw L L.length)) (wn_one (sw L L.length)))
          have J1 := hide J.out
          clear hlt hk C1 CL2 J
          generalize sw L L.length = SK at *
          go_wp2_with ((with_reducible refine at_list ?_); first | refine wpList_loadS AW _ rfl g6 rfl (wn SK) SZ.out.1 51 J1.out.2.2 (by rfl) ?_ | refine wpList_storeA AW rfl _ _ rfl w.heap.size (wn SK) SZ.out.1 SZ.out.2 rfl rfl (wn 0) ZW.out.1 51 J1.out.2.1 ?_)
          exact bodyPost_ret (v := .tuple #[.agg (wn SK), .int .i64 0, .int .i64 0]) (resA3K AW Tryz.results23 _ _ w.heap.size 51 _ SZ.out.1 rfl (setRow_heap _ _ _ _ _ _ J1.out.2.1) _ rfl _ rfl) rfl ⟨by rw [E1.out], below_setRow J1.out.1 (Nat.le_refl _) _⟩
end
end Go.Proofs.YtofddbjnncgmlaaGreatDoor
namespace Go.Proofs.YtofddbjnncgmlaaGreatDoor
open Go.RowKit
open Go.Deep
/-- The word q behind all bytes from k on. -/
def wpt (m k q : Nat) : Nat := m / 256 ^ (max k (8 * q)) % 256 ^ (8 * (q + 1) - max k (8 * q))
theorem wpt_start (m q : Nat) (h : q < 4) : wpt m 32 q = 0 := by
  unfold wpt
  rw [show 8 * (q + 1) - max 32 (8 * q) = 0 by omega, Nat.pow_zero, Nat.mod_one]
theorem wpt_end (m q : Nat) : wpt m 0 q = wd m q := by
  unfold wpt wd dg
  rw [show max 0 (8 * q) = 8 * q by omega, show 8 * (q + 1) - 8 * q = 8 by omega, Nat.pow_mul]
theorem wpt_step (m k : Nat) : wpt m (k + 1) (k / 8) * 256 + dg 256 m k = wpt m k (k / 8) := by
  unfold wpt dg
  obtain ⟨e, he⟩ : ∃ e, 8 * (k / 8 + 1) = k + 1 + e := ⟨8 * (k / 8 + 1) - (k + 1), by omega⟩
  rw [show max (k + 1) (8 * (k / 8)) = k + 1 by omega, show max k (8 * (k / 8)) = k by omega, he, show k + 1 + e - (k + 1) = e by omega, show k + 1 + e - k = e + 1 by omega, Nat.pow_succ, ← Nat.div_div_eq_div_mul, Nat.pow_succ, Nat.mul_comm (256 ^ e) 256, Nat.mod_mul]
  omega
theorem wpt_other (m k q : Nat) (h : q ≠ k / 8) : wpt m k q = wpt m (k + 1) q := by
  unfold wpt
  rcases Nat.lt_or_ge q (k / 8) with h2 | h2
  · rw [show 8 * (q + 1) - max k (8 * q) = 0 by omega, show 8 * (q + 1) - max (k + 1) (8 * q) = 0 by omega, Nat.pow_zero, Nat.mod_one, Nat.mod_one]
  · rw [show max k (8 * q) = max (k + 1) (8 * q) by omega]
theorem wpt_lt (m k q : Nat) : wpt m k q < 18446744073709551616 := by
  unfold wpt
  have h1 : m / 256 ^ (max k (8 * q)) % 256 ^ (8 * (q + 1) - max k (8 * q)) < 256 ^ (8 * (q + 1) - max k (8 * q)) := Nat.mod_lt _ (Nat.pow_pos (by decide))
  have h2 : 256 ^ (8 * (q + 1) - max k (8 * q)) ≤ 256 ^ 8 := Nat.pow_le_pow_right (by decide) (by omega)
  have h3 : (256 : Nat) ^ 8 = 18446744073709551616 := by decide
  omega
/-- A number's bytes, an answer's place, and a row of words. -/
structure Wo (w W : World) (m : Nat) (f : Nat → Nat) : Prop where
  a : Ni W w.heap.size 180 40 (dg 256 m)
  r : W.heap[w.heap.size + 1]? = some (.cells (wn 0) 50 (0, 0))
  o : Nd W (w.heap.size + 1 + 1) 50 4 f
  bel : Below w.heap.size w W
theorem Wo.start (w : World) (m : Nat) : Wo w (((w.alloc (.cells (bn m) 180)).alloc (.cells (wn 0) 50)).alloc (.cells (wn 0) 50)) m (wd 0) := by
  obtain ⟨e1, e2, e3⟩ := blk3 w (.cells (bn m) 180) (.cells (wn 0) 50) (.cells (wn 0) 50)
  exact ⟨Ni.of_heap e1, e2, Nd.of_heap e3, below3 w _ _ _⟩
theorem Wo.set {w W : World} {m : Nat} {f : Nat → Nat} (j : Wo w W m f) (i x : Nat) {f' : Nat → Nat} (e : ∀ k, k < 4 → (if k = i then x else f k) = f' k) : Wo w (W.setCell ⟨w.heap.size + 1 + 1, i, none⟩ (.int .u64 ((x : Nat) : Int))) m f' :=
  ⟨j.a.other (by omega) _ _, (Below.heap_setCell _ _ _ _ (by simp <;> omega)).trans j.r, (j.o.set i x).congr e, j.bel.setCell (by simp <;> omega) _⟩
theorem Wo.congr {w W : World} {m : Nat} {f f' : Nat → Nat} (j : Wo w W m f) (e : ∀ i, i < 4 → f i = f' i) : Wo w W m f' := ⟨j.a, j.r, j.o.congr e, j.bel⟩
theorem Wo.drew {w W : World} {m : Nat} {f : Nat → Nat} (j : Wo w W m f) : Wo w W.drew m f := ⟨j.a, j.r, j.o, j.bel.drew⟩
theorem wd0 (q : Nat) : wd 0 q = 0 := by simp [wd, dg]
section
set_option maxRecDepth 10000
set_option maxHeartbeats 2000000
theorem words_any (m : Nat) (w : World) : Calls Tryz.prog 90 #[.agg (bn m)] w fun e w' => e = .returned (.agg (wn m)) ∧ Below w.heap.size w w' := by
  have J0 := hide ((Wo.start w m).congr (f' := wpt m 32) (fun q hq => by rw [wd0, wpt_start m q hq]))
  go_enter Tryz.func90, Tryz.ntmps90
  go_wp2_with (first | refine wpList_boxA rfl _ rfl (bn m) rfl ?_ | refine wpList_allocA AR rfl rfl ?_ | refine wpList_buildA AR rfl rfl ?_ | refine wpList_store_newA AR rfl _ _ rfl _ rfl (wn 0) (wn_size _) (wn_one _) rfl rfl ?_)
  generalize ((w.alloc (.cells (bn m) 180)).alloc (.cells (wn 0) 50)).alloc (.cells (wn 0) 50) = W0 at *
  go_loopw [4] (fun d wr => ∃ k : Nat, k ≤ 32 ∧ d = .int .i64 ((k : Int) - 1) ∧ Hid (Wo w wr m (wpt m k))) (fun d _ => (1 + intOf d).toNat)
  case atStart => exact ⟨32, by omega, rfl, J0⟩
  case round =>
    clear J0
    obtain ⟨k, hk, rfl, J⟩ := hrel
    rcases k with _ | k
    · have t1 : ¬ (0 : Int) ≤ ((0 : Nat) : Int) - 1 := by omega
      have H2 := (J.out.o.congr (f' := wd m) (fun q _ => wpt_end m q)).heap
      go_wp2_with (first | refine wpList_loadA AR rfl _ rfl _ rfl (wn m) (wn_size _) 50 H2 ?_ | refine wpList_storeA AR rfl _ _ rfl _ (wn m) (wn_size _) (wn_one _) rfl rfl (wn 0) (wn_size 0) 50 J.out.r ?_)
      exact bodyPost_ret (v := .agg (wn m)) (resA AR Tryz.results90 _ _ (w.heap.size + 1) 50 (wn m) (wn_size _) rfl (setRow_heap _ _ _ _ _ _ J.out.r)) rfl ⟨rfl, below_setRow J.out.bel (by omega) _⟩
    · have e1 : ((k + 1 : Nat) : Int) - 1 = k := by omega
      rw [e1]
      have k0 : (0 : Int) ≤ k := by omega
      have k1 : (k : Int) < 40 := by omega
      have ca := J.out.a.cell (show k < 40 by omega)
      have co := J.out.o.cell (show k / 8 < 4 by omega)
      have fo := J.out.o.fz (k / 8)
      have d1 : (k : Int) / 8 = ((k / 8 : Nat) : Int) := by omega
      have q4 : ((k / 8 : Nat) : Int) < 4 := by omega
      have q0 : (0 : Int) ≤ ((k / 8 : Nat) : Int) := by omega
      have hkw : IntKind.i64.wrap ((k : Int) - 1) = k - 1 := wrapI _ (by omega) (by omega)
      have hst := wpt_step m k
      have hl := wpt_lt m k (k / 8)
      have hdl := dg_lt (B := 256) (by decide) m k
      have HR : Hid (∀ q, q < 4 → (if q = k / 8 then wpt m k (k / 8) else wpt m (k + 1) q) = wpt m k q) := fun q _ => by
        split
        · rename_i h
          rw [h]
        · rename_i h
          exact (wpt_other m k q h).symm
      obtain ⟨z, hz⟩ : ∃ z, z = wpt m k (k / 8) := ⟨_, rfl⟩
      rw [← hz] at hst hl HR
      obtain ⟨x, hx⟩ : ∃ x, x = dg 256 m k := ⟨_, rfl⟩
      rw [← hx] at hst hdl ca
      obtain ⟨y, hy⟩ : ∃ y, y = wpt m (k + 1) (k / 8) := ⟨_, rfl⟩
      rw [← hy] at hst co
      have w1 : IntKind.u64.wrap ((y : Int) * 256) = ((y * 256 : Nat) : Int) := by rw [wrapu _ (by omega) (by omega)]; omega
      have w2 : IntKind.u64.wrap (x : Int) = (x : Int) := wrapu _ (by omega) (by omega)
      have w3 : IntKind.u64.wrap (((y * 256 : Nat) : Int) + (x : Int)) = (z : Int) := by rw [wrapu _ (by omega) (by omega)]; omega
      have LK := hide hk
      obtain ⟨y2, hy2⟩ : ∃ y2, y2 = y * 256 := ⟨_, rfl⟩
      rw [← hy2] at w1 w3
      clear hk hst hl hdl hz hx hy hy2 e1
      generalize hq : k / 8 = q at *
      clear hq
      go_upto_region 5 with fail
      go_region
      go_wp2
      have L4 := LK.out
      exact ⟨⟨k, by omega, rfl, hide (J.out.set q z HR.out).drew⟩, by simp [intOf]; omega⟩
end
end Go.Proofs.YtofddbjnncgmlaaGreatDoor
