/- The block that the law's awake has connected: what the kernel reckons of it. A tree of genesis: the block of the law's awake is added, and its body comes: their contracts. A chain: how its bodies read; Has of what is not there; Tip: their contracts. -/
import Derived.Test.YtcoojkpimbddlaaGreatDoorP0
import Derived.Test.YtcoojkpimbddlaaGreatDoorX40
import Derived.Test.YtcoojkpimbddlaaGreatDoorX36
import Derived.Test.YtcoojkpimbddlaaGreatDoorX31
import Derived.Test.YtcoojkpimbddlaaGreatDoorX37
namespace Go.Proofs.YtcoojkpimbddlaaGreatDoor
open Go.RowKit
open Go.Deep
open Go.Maps
set_option linter.unusedVariables false
def o17 : Tu := ⟨5000, ⟨#[]⟩⟩
def T17 : Tm := cbT 1 ⟨#[120]⟩ [o17]
def h17 : Hd := ⟨1, (gH.at 1).id, T17.idT, 1600000060, 545259519, 0, Hd.id_len _, T17.idT_len⟩
theorem T17_told : T17.toldE = 0 := by decide +kernel
theorem T17_chk : T17.chk = 0 := by decide +kernel
theorem T17_len : T17.bytes.length = 65 := by decide +kernel
theorem T17_fit : T17.fit := ⟨by decide, by decide⟩
theorem h17_0 : (h17.at 0).meets = false := by decide +kernel
theorem h17_1 : (h17.at 1).meets = false := by decide +kernel
theorem h17_2 : (h17.at 2).meets = true := by decide +kernel
theorem h17_id : (h17.at 2).id ≠ (gH.at 1).id := by decide +kernel
theorem wk17_lt : 0 < wkG ∧ wkG + wkG < M := by decide +kernel
theorem idsL17 (x : Tq) (hx : x.m = T17) : idsL [x] = [T17.idT] := by show [x.m.idT] = _; rw [hx]
theorem txsB17 (x : Tq) (hx : x.m = T17) : txsB [x] = T17.bytes := by show x.m.bytes ++ [] = _; rw [hx, List.append_nil]
theorem bkB17 (h : Hd) (x : Tq) (hx : x.m = T17) : (bkB h [x]).length ≤ 8192 := by
  have e4 : bkB h [x] = h.bytes ++ countL 1 ++ T17.bytes := by show h.bytes ++ countL 1 ++ txsB [x] = _; rw [txsB17 x hx]
  rw [e4, List.length_append, List.length_append, h.bytes_len, T17_len]
  decide
theorem ok17 (x : Tq) (hx : x.m = T17) : Ok2 (h17.at 2) x 1 o17 := by
  refine ⟨⟨bkB17 _ x hx, ?_, ?_, ?_, ?_, ?_, ?_⟩, ?_, ?_, ?_, by decide, by decide, Tm.idT_len _⟩
  · rw [idsL17 x hx, rtL_oneB]; rfl
  · rw [idsL17 x hx, muL_oneB]
  · rw [hx]; exact cbT_base _ _ _
  · rw [hx]; exact T17_chk
  · rw [hx]; exact cbT_hgt 1 (by omega) _ _
  · rw [hx]
    intro y hy
    rw [List.mem_singleton.1 hy]
    decide
  · rw [hx]; rfl
  · rw [hx]; exact T17_told
  · rw [hx]; rfl
theorem whB17 (y : Tq) (hy : y.m = T17) : whB (h17.at 2) [y] = true := by
  have e2 : (h17.at 2).root = T17.idT := rfl
  unfold whB
  rw [idsL17 y hy, e2, rtL_oneB, muL_oneB, beq_self_eq_true]
  rfl
theorem build17 (x : Tq) (hm : x.m = T17) (v : Value) (w : World) (hL : LQ w v [x]) (hK : Kg w) : Calls Tryz.prog 107 #[.agg (hc (gH.at 1).id), .int .u32 1600000060, .int .u32 545259519, v] w fun e w' => ∃ ao cap y, e = .returned (.tuple #[.agg (bkA (h17.at 2) (.slice ao 1 cap)), .int .i64 0]) ∧ (∀ W' : World, (∀ g, w.heap.size ≤ g → g < w'.heap.size → W'.heap[g]? = w'.heap[g]?) → LQ W' (.slice ao 1 cap) [y]) ∧ y.m = T17 ∧ Below w.heap.size w w' := by
  have e2 : rtL (idsL [x]) = T17.idT := by rw [idsL17 x hm, rtL_oneB]
  have q := build_yes (gH.at 1).id (Hd.id_len _) 1600000060 545259519 v x w hL (by rw [hm]; exact T17_told) h17 (by unfold h17; congr 1; exact e2.symm) (bkB17 _ x hm) 2 (by omega) (fun j hj => by
    have : j = 0 ∨ j = 1 := by omega
    rcases this with rfl | rfl
    · exact h17_0
    · exact h17_1) h17_2 hK
  rw [hm] at q
  exact q
end Go.Proofs.YtcoojkpimbddlaaGreatDoor
namespace Go.Proofs.YtcoojkpimbddlaaGreatDoor
open Go.RowKit
open Go.Deep
open Go.Maps
set_option linter.unusedVariables false
set_option linter.unusedSimpArgs false
def mG17 : DataW Unit := (DataW.map []).put (.string (gH.at 1).id) (.lit (.int .i64 0))
def m17 : DataW Unit := mG17.put (.string (h17.at 2).id) (.lit (.int .i64 1))
def n17 : Tno := ⟨(h17.at 2).id, h17.at 2, 1, 1, wkG + wkG, false, false, false, 0, 0, 0, 0, 0, Hd.id_len _⟩
def L17 : List Tno := [ndG.withYo 1, n17]
theorem key17 : (Lit.string (h17.at 2).id) ≠ Lit.string (gH.at 1).id := fun e => h17_id (by injection e)
theorem m17_at : m17.atKey (.string (h17.at 2).id) (.lit (.int .i64 0)) = .lit (.int .i64 1) := atKey_put_same ⟨_, rfl⟩ (by simp [WideAt.IsKeyLit]) _ _
theorem m17_has : Maps.has m17 (.string (h17.at 2).id) = true := has_put_same ⟨_, rfl⟩ (by simp [WideAt.IsKeyLit]) _
theorem m17_atG : m17.atKey (.string (gH.at 1).id) (.lit (.int .i64 0)) = .lit (.int .i64 0) := (atKey_put_other key17.symm _ _).trans atG
theorem m17_hasG : Maps.has m17 (.string (gH.at 1).id) = true := (has_put_other key17.symm _).trans hasG
section
set_option maxRecDepth 10000
set_option maxHeartbeats 8000000
theorem add_17 {B w : World} {gt gm : Nat} {ve : Value} (h : Tm4 B w gt gm 1 mG17 ve [ndG] 1 0 0) (hK : Kg w) : Calls Tryz.prog 53 #[.pointer (some ⟨gt, 0, none⟩), .agg (h17.at 2).cells.toArray, .int .u32 4294967295] w fun e w' => e = .returned (.tuple #[.bool true, .int .i64 0]) ∧ ∃ v, Tm4 B w' gt gm 2 m17 v L17 1 0 1 ∧ Frt (S4 gt gm ve) w w' ∧ (∀ g, v.ownBlock = some g → ve.ownBlock = some g ∨ w.heap.size ≤ g) := by
  have p1 : (h17.at 2).prev = (gH.at 1).id := rfl
  refine add_fr h hK (h17.at 2) 4294967295 0 ((atKey_put_other key17 _ _).trans rfl) ((has_put_other key17 _).trans rfl) h17_2 0 (by rw [p1]; exact atG) (by rw [p1]; exact hasG) (fun w' => ∃ v, Tm4 B w' gt gm 2 m17 v L17 1 0 1 ∧ Frt (S4 gt gm ve) w w' ∧ (∀ g, v.ownBlock = some g → ve.ownBlock = some g ∨ w.heap.size ≤ g)) (fun W q => ?_) (fun W q bw => ?_)
  · exact fits_ok q 0 (by simp) (by simp) rfl (h17.at 2) 4294967295 1600000000 (by omega)
      (fun W2 q2 => (asked_no q2 (by simp) 0 (by simp) (by decide) (by decide)).mono fun e w' ⟨h1, h2⟩ => ⟨h1, h2 ▸ Below.refl _ _⟩)
      (fun W2 q2 => median0 q2 (by simp) 0 (by simp) rfl) (by decide) (by decide)
  · refine (hang_fr q (by simp) (by omega) 0 (by simp) (by decide) (h17.at 2).id (Hd.id_len _) (h17.at 2) wkG wk17_lt.2 0 0 (fun W2 => work_yes 545259519 (by omega) (by decide +kernel) W2) (fun W2 => skip1 W2) (fun W2 q2 => anc_here q2 (by simp) 0 (by simp) 0 (Int.le_refl _)) 1 (fun W2 v q2 => ?_)).mono fun e w' ⟨h1, v, h2, h3, h4⟩ => ⟨h1, v, h2, (Frt.of_below bw).trans' h3, fun g hg => (h4 g hg).imp id (Nat.le_trans bw.size)⟩
    exact weigh_lead q2 (by simp) 1 (by simp) (by simp) rfl rfl wk17_lt.2 (by have := wk17_lt.2; show wkG < M; omega) (by have := wk17_lt.1; show wkG < wkG + wkG; omega)
theorem body17 {B w : World} {gt gm : Nat} {ve : Value} (h : Tm4 B w gt gm 2 m17 ve L17 1 0 1) : Calls Tryz.prog 14 #[.pointer (some ⟨gt, 0, none⟩), .agg (hc (h17.at 2).id)] w fun e w' => ∃ v, e = .returned (.tuple #[v, .int .i64 0]) ∧ ∃ L', SmT L17 L' ∧ Tm4 B w' gt gm 2 m17 ve L' 2 1 1 ∧ Frt (S4 gt gm ve) w w' :=
  body_17 h (by show 2 ≤ _; omega) (by omega) (h17.at 2).id (Hd.id_len _) (by show 1 < 2; omega) (by show 0 < 2; omega) m17_at m17_has rfl rfl rfl (by show 0 < 2; omega) (by show 0 ≠ 1; omega) (by omega) rfl wk17_lt.2 (by have := wk17_lt.2; show wkG < M; omega) (by have := wk17_lt.1; show wkG < wkG + wkG; omega)
end
def kd17 : Value → Int
  | .agg a => match (a[67]? : Option Value) with
    | some (Value.int _ n) => n
    | _ => -1
  | _ => -1
theorem kd17_bk (h : Hd) (v : Value) : kd17 (.agg (bkA h v)) = (h.nonce.toNat : Int) := by
  obtain ⟨ve, p, r, t, b, o, hp, hr⟩ := h
  obtain ⟨_, _, _, _, _, _, _, _, _, _, _, _, _, _, _, _, _, _, _, _, _, _, _, _, _, _, _, _, _, _, _, _, rfl⟩ := id32' p hp
  obtain ⟨_, _, _, _, _, _, _, _, _, _, _, _, _, _, _, _, _, _, _, _, _, _, _, _, _, _, _, _, _, _, _, _, rfl⟩ := id32' r hr
  rfl
def boR : Value → Option (DataW Unit × List MemPlace) := fun v => if kd17 v = 2 then none else some (.lit (.int .i64 (kd17 v)), [])
theorem boR_one (h : Hd) (x : Value) (hn : h.nonce.toNat = 2) : ∃ R : Value → Option (DataW Unit × List MemPlace), R (.agg (bkA h x)) = some (.lit (.int .i64 2), []) ∧ (∀ v z, boR v = some z → R v = some z) ∧ (∀ v ps, R v = some (.lit (.int .i64 2), ps) → v = .agg (bkA h x)) := by
  classical
  refine ⟨fun v => if v = .agg (bkA h x) then some (.lit (.int .i64 2), []) else boR v, if_pos rfl, fun v z hz => ?_, fun v ps hv => ?_⟩
  · have hne : v ≠ .agg (bkA h x) := by
      rintro rfl
      unfold boR at hz
      rw [if_pos (by rw [kd17_bk, hn]; rfl)] at hz
      cases hz
    show (if v = .agg (bkA h x) then _ else boR v) = _
    rw [if_neg hne]
    exact hz
  · by_cases e : v = .agg (bkA h x)
    · exact e
    · have hv : (if v = .agg (bkA h x) then some (.lit (.int .i64 2), []) else boR v) = some (.lit (.int .i64 2), ps) := hv
      rw [if_neg e] at hv
      unfold boR at hv
      split at hv
      · cases hv
      · rename_i hk
        simp only [Option.some.injEq, Prod.mk.injEq, DataW.lit.injEq, Lit.int.injEq, true_and] at hv
        exact absurd hv.1 hk
theorem zeroB17 (w : World) : (zeroValue 62).run Tryz.prog w = .ok (.agg (bkA zHd (.slice none 0 0))) w := by kernel_rfl
theorem boR_zero : boR (.agg (bkA zHd (.slice none 0 0))) = some (.lit (.int .i64 0), []) := by
  unfold boR
  rw [kd17_bk, show ((zHd.nonce.toNat : Nat) : Int) = 0 from rfl, if_neg (by omega)]
section
variable {W : World} {b n : Nat} {D : DataW Unit} {R R' : Value → Option (DataW Unit × List MemPlace)}
theorem own_R (h : W.ownsMap Tryz.prog 46 R b n D) (hs : ∀ v z, R v = some z → R' v = some z) : W.ownsMap Tryz.prog 46 R' b n D := by
  obtain ⟨es, clock, hb, F, hn, rfl⟩ := h
  exact (World.ownsMap_of_fit hb F (fun x _ z => hs x.val z)).mono hn
theorem look17_no (h : W.ownsMap Tryz.prog 46 R b n D) (l : List UInt8) (hl : l.length = 32) (hh : Maps.has D (.string l) = false) : (Instr.lookup 205 (.map (some b)) (.agg (hc l)) true).run Tryz.prog W = .ok (.tuple #[.agg (bkA zHd (.slice none 0 0)), .bool false]) W := by
  obtain ⟨es, clock, hb, F, _, rfl⟩ := h
  rcases Maps.fit_look true lawH14 Tryz.underlying205 (zeroB17 W) hb F (keyH14 l hl) with ⟨hrun, _, hat⟩ | ⟨e0, y, _, _, hrun, hRv, hat, _⟩
  · exact hrun
  · rw [Maps.has_true_of_atKey hat] at hh
    cases hh
theorem look17_at (h : W.ownsMap Tryz.prog 46 R b n D) (l : List UInt8) (hl : l.length = 32) (v : Value) (d : DataW Unit) (hz : R (.agg (bkA zHd (.slice none 0 0))) = some (.lit (.int .i64 0), [])) (hat : D.atKey (.string l) (.lit (.int .i64 0)) = d) (hv : ∀ u ps, R u = some (d, ps) → u = v) : (Instr.lookup 205 (.map (some b)) (.agg (hc l)) false).run Tryz.prog W = .ok v W := by
  obtain ⟨u, ps, hrun, hu⟩ := h.lookup lawH14 Tryz.underlying205 (zeroB17 W) hz (keyH14 l hl)
  rw [hat] at hu
  rw [hv u ps hu] at hrun
  exact hrun
end
section
variable {S : World → Prop} {ops : Array Oper} {o : Oper} {a : Act}
theorem yl_look17 (hw : Region.wanted o (yielded ops a.tmps) = true) (t : TypeId) (m x : Operand) (ho : o.op = .lookup t m x false) (vm vx : Value) (hm : a.eval m = vm) (hx : a.eval x = vx) (r : Value) (hr : ∀ W, S W → (Instr.lookup t vm vx false).run Tryz.prog W = .ok r W) : YieldsIf Tryz.prog ops S o r a :=
  .inl ⟨hw, fun W hW => by
    unfold execOp
    simp only [ho, hm, hx, hr W hW, Sem.run_bind, Result.andThen_ok, Sem.run_pure]⟩
end
section
set_option maxRecDepth 10000
set_option maxHeartbeats 4000000
theorem has17_no {B w : World} {gch gt gm nn : Nat} {DT : DataW Unit} {ve : Value} {L : List Tno} {tu be bh gc bm bc n m : Nat} {tip : List UInt8} {ht : Int} {DC EC : DataW Unit} {R : Value → Option (DataW Unit × List MemPlace)} {gb nb : Nat} {DB : DataW Unit} {gu nu : Nat} {DU : DataW Unit} (h : Chw B w gch gt gm nn DT ve L tu be bh gc bm bc n m tip ht DC EC R gb nb DB gu nu DU) (l : List UInt8) (hl : l.length = 32) (hh : Maps.has DB (.string l) = false) : Calls Tryz.prog 40 #[.pointer (some ⟨gch, 0, none⟩), .agg (hc l)] w fun e w' => e = .returned (.bool false) ∧ Below w.heap.size w w' := by
  have b1 := (Below.refl w.heap.size w).alloc (Nat.le_refl _) (.cells (hc l) 46)
  have R3 := hide (heap_alloc_last w (.cells (hc l) 46))
  have B1 := hide b1
  have X1 := hide (h.next b1)
  have LK : Hid (∀ W, Chw B W gch gt gm nn DT ve L tu be bh gc bm bc n m tip ht DC EC R gb nb DB gu nu DU → (Instr.lookup 205 (.map (some gb)) (.agg (hc l)) true).run Tryz.prog W = .ok (.tuple #[.agg (bkA zHd (.slice none 0 0)), .bool false]) W) := fun W q => look17_no q.b l hl hh
  have CZ : Hid ((hc l).size = 32) := by show _ = _; rw [hc_size, hl]
  have BZ := hide (And.intro (bkA_size zHd (.slice none 0 0)) (bkA_all zHd none 0 0))
  clear b1 h hh
  generalize hc l = C at *
  generalize bkA zHd (.slice none 0 0) = ZB at *
  go_enter Tryz.func40, Tryz.ntmps40
  go_upto_region 1 with ((with_reducible refine at_list ?_); refine wpList_boxA rfl _ rfl C rfl ?_)
  generalize w.alloc (.cells C 46) = W0 at *
  go_upto_region 3 with fail
  have DV1 := hide ((Below.refl W0.heap.size W0).drew)
  refine wp_region_held_drew (S := fun W => Below W0.heap.size W0 W) (by kernel_rfl) DV1.out (fun hH => ?_)
  generalize hWd : W0.drew = V1 at *
  clear hWd
  refine wt (i := 0) (v := (.pointer (some ⟨gch, 0, none⟩))) rfl (yl_move (by rfl) _ (by rfl) _ (by rfl)) hH ?_
  change wpAnyH _ _ _ _ _ _ _ (Act.put _ (some 10) _) _
  simp only [Act.put, s0, s1, s2]
  refine wt (i := 1) (v := (.pointer (some ⟨gch, 0, none⟩))) rfl (.inl ⟨by rfl, fun W _ => by go_simp⟩) hH ?_
  change wpAnyH _ _ _ _ _ _ _ (Act.put _ (some 11) _) _
  simp only [Act.put, s0, s1, s2]
  refine wt (i := 2) (v := (.pointer (some ⟨gch, 2, none⟩))) rfl (.inl ⟨by rfl, fun W _ => by go_simp⟩) hH ?_
  change wpAnyH _ _ _ _ _ _ _ (Act.put _ (some 12) _) _
  simp only [Act.put, s0, s1, s2]
  refine wt (i := 3) (v := (.map (some gb))) rfl (.inl ⟨by rfl, fun W hS => by have c4 := (X1.out.next hS).cells.2.2.1; go_simp⟩) hH ?_
  change wpAnyH _ _ _ _ _ _ _ (Act.put _ (some 13) _) _
  simp only [Act.put, s0, s1, s2]
  refine wt (i := 4) (v := (.agg C)) rfl (yl_load (by rfl) _ (by rfl) _ C (by rfl) (fun W hS => ld_row A25 CZ.out ((hS.block _ (lt_heap R3.out)).trans R3.out))) hH ?_
  change wpAnyH _ _ _ _ _ _ _ (Act.put _ (some 14) _) _
  simp only [Act.put, s0, s1, s2]
  refine wt (i := 5) (v := (.tuple #[.agg ZB, .bool false])) rfl (yl_look14 (by rfl) _ _ _ (by rfl) _ _ (by rfl) (by rfl) _ (fun W hS => LK.out W (X1.out.next hS))) hH ?_
  change wpAnyH _ _ _ _ _ _ _ (Act.put _ (some 15) _) _
  simp only [Act.put, s0, s1, s2]
  refine wt (i := 6) (v := (.tuple #[.agg ZB, .bool false])) rfl (yl_move (by rfl) _ (by rfl) _ (by rfl)) hH ?_
  change wpAnyH _ _ _ _ _ _ _ (Act.put _ (some 9) _) _
  simp only [Act.put, s0, s1, s2]
  refine wt (i := 7) (v := (.agg ZB)) rfl (.inl ⟨by rfl, fun W _ => by go_simp⟩) hH ?_
  change wpAnyH _ _ _ _ _ _ _ (Act.put _ (some 16) _) _
  simp only [Act.put, s0, s1, s2]
  refine wt (i := 8) (v := (.bool false)) rfl (.inl ⟨by rfl, fun W _ => by go_simp⟩) hH ?_
  change wpAnyH _ _ _ _ _ _ _ (Act.put _ (some 17) _) _
  simp only [Act.put, s0, s1, s2]
  refine wpAnyH_ready (rs := [9]) (by kernel_rfl) (by simp) (AllReadyH.cons rfl (fun K1 hK1 => ?_) AllReadyH.nil)
  have RV2 := hide (heap_alloc_last V1 (.cells (bkA zHd (.slice none 0 0)) 62))
  have DV2 := hide (below_next DV1.out ((Below.refl V1.heap.size V1).alloc (Nat.le_refl _) (.cells (bkA zHd (.slice none 0 0)) 62)))
  have G5 : Hid (W0.heap.size ≤ V1.heap.size) := DV1.out.size
  refine stepAllocA ABk (by rfl) (by rfl) ?_
  refine hK1.out _ _ DV2.out (fun hH => ?_)
  clear hK1
  change wpAnyH _ _ _ _ _ _ _ (Act.put _ (some 5) _) _
  simp only [Act.put, s0, s1, s2]
  generalize V1.alloc (.cells (bkA zHd (.slice none 0 0)) 62) = V2 at *
  generalize V1.heap.size = g5 at *
  refine wpAnyH_ready (rs := [10]) (by kernel_rfl) (by simp) (AllReadyH.cons rfl (fun K1 hK1 => ?_) AllReadyH.nil)
  refine stepStoreA ABk (by rfl) _ _ (by rfl) g5 ZB BZ.out.1 BZ.out.2 (by rfl) (by rfl) (bkA zHd (.slice none 0 0)) (bkA_size _ _) _ RV2.out ?_
  have DE := hide (below_setRow DV2.out G5.out ZB)
  refine hK1.out _ _ DE.out (fun hH => ?_)
  clear hK1
  change wpAnyH _ _ _ _ _ _ _ (Act.put _ none _) _
  simp only [Act.put]
  refine wt (i := 11) (v := (.bool false)) rfl (.inl ⟨by rfl, fun W _ => by go_simp⟩) hH ?_
  change wpAnyH _ _ _ _ _ _ _ (Act.put _ (some 6) _) _
  simp only [Act.put, s0, s1, s2]
  refine wpAnyH_done (by kernel_rfl) ?_ _
  clear hH
  go_wp2
  go_ret
  exact ⟨rfl, below_next B1.out DE.out⟩
theorem tip17 {B w : World} {gch gt gm nn : Nat} {DT : DataW Unit} {ve : Value} {L : List Tno} {tu be bh gc bm bc n m : Nat} {tip : List UInt8} {ht : Int} {DC EC : DataW Unit} {R : Value → Option (DataW Unit × List MemPlace)} {gb nb : Nat} {DB : DataW Unit} {gu nu : Nat} {DU : DataW Unit} (h : Chw B w gch gt gm nn DT ve L tu be bh gc bm bc n m tip ht DC EC R gb nb DB gu nu DU) : Calls Tryz.prog 32 #[.pointer (some ⟨gch, 0, none⟩)] w fun e w' => e = .returned (.tuple #[.agg (hc tip), .int .i64 ht]) ∧ Below w.heap.size w w' := by
  have b1 := (Below.refl w.heap.size w).alloc (Nat.le_refl _) (.cells (hc zeros) 46)
  have R3 := hide (heap_alloc_last w (.cells (hc zeros) 46))
  have B1 := hide b1
  have X1 := hide (h.next b1)
  have HT : Hid (∀ W, Chw B W gch gt gm nn DT ve L tu be bh gc bm bc n m tip ht DC EC R gb nb DB gu nu DU → Calls Tryz.prog 25 #[.pointer (some ⟨gc, 0, none⟩)] W fun e w' => e = .returned (.tuple #[.agg (hc tip), .int .i64 ht]) ∧ Below W.heap.size W w') := fun W q => tip_any q.c
  have CZ := hide (And.intro (show (hc tip).size = 32 by rw [hc_size, h.c.ht]) (hc_one tip))
  have ZZ := hide (show (hc zeros).size = 32 by rw [hc_size, zeros_len])
  clear b1 h
  generalize hc tip = C at *
  go_enter Tryz.func32, Tryz.ntmps32
  go_upto_region 1 with ((with_reducible refine at_list ?_); refine wpList_allocA A25 rfl rfl ?_)
  generalize w.alloc (.cells (hc zeros) 46) = W0 at *
  have c1 := X1.out.cells.2.1
  go_wp2_with (first | (go_at_call 25; refine (HT.out _ X1.out).mono ?_; rintro e W1 ⟨rfl, be⟩; have D1 := hide be; have R4 := hide ((be.block _ (lt_heap R3.out)).trans R3.out); clear be) | ((with_reducible refine at_list ?_); refine wpList_storeA A25 rfl _ _ rfl w.heap.size C CZ.out.1 CZ.out.2 rfl rfl (hc zeros) ZZ.out 46 R4.out ?_))
  exact bodyPost_ret (v := .tuple #[.agg C, .int .i64 ht]) (resA2K A25 Tryz.results32 _ _ w.heap.size 46 _ CZ.out.1 rfl (setRow_heap _ _ _ _ _ _ R4.out) _ rfl) rfl ⟨rfl, below_setRow (below_next B1.out D1.out) (Nat.le_refl _) _⟩
end
end Go.Proofs.YtcoojkpimbddlaaGreatDoor
