/- Journals: what the law does, whatever it is. The walk of JournalPlays. What the listed table gives the walks: K0 .. K63 in their cells; a world that has them. What is done, as it comes in. -/
import Derived.Test.YtgncphoaknffnaaGreatDoorP25
import Derived.Test.YtgncphoaknffnaaGreatDoorP02
import Derived.ProofKit
import Derived.LaidMore
import Derived.OpenShut
import Derived.Stop.Joined
import Derived.ShutString
import Derived.ChangeOld
import Derived.SizedLaws
import Derived.Lib.SmallJoins
namespace Go.Proofs.YtgncphoaknffnaaGreatDoor
open Go.RowKit
open Go.Deep
open Go.Lib
set_option linter.unusedVariables false
section
variable {K : Nat → Prop} {B w : World} {gj gd : Nat} {x : StD} {T : Nat → Prop} {v : Value}
theorem act_any {ep torn c : Nat} {L : List ByteArray} {u : Value} {kind n : Int} {s : ByteArray} (h : JB K B w gj gd ⟨logN, ep, L, torn, false⟩ x T v) (hu : MU w T gj v u L) (hd : Ds x ep L c) (hc : c < 60) (hK : KB K B) (hs : s.size ≤ 70000) : Calls Tryz.prog 8 #[.pointer (some ⟨gj, 0, none⟩), .pointer (some ⟨gd, 0, none⟩), .agg #[u, .int .u64 (ep : Int)], .agg #[.int .i64 kind, .int .i64 n, .string s]] w fun e w' => AP K B gd c e w' := by
  have t1 := Int.tmod_lt_of_pos kind (b := 6) (by decide)
  have t2 := Int.lt_tmod_of_pos kind (b := 6) (by decide)
  have hk1 : wrap64 (kind.tmod 6 + 6) = kind.tmod 6 + 6 := by
    unfold wrap64
    omega
  have r0 : 0 ≤ (kind.tmod 6 + 6).tmod 6 := Int.tmod_nonneg 6 (by omega)
  have r1 := Int.tmod_lt_of_pos (kind.tmod 6 + 6) (b := 6) (by decide)
  have hr : (kind.tmod 6 + 6).tmod 6 = 0 ∨ (kind.tmod 6 + 6).tmod 6 = 1 ∨ (kind.tmod 6 + 6).tmod 6 = 2 ∨ (kind.tmod 6 + 6).tmod 6 = 3 ∨ (kind.tmod 6 + 6).tmod 6 = 4 ∨ (kind.tmod 6 + 6).tmod 6 = 5 := by omega
  rcases hr with hk | hk | hk | hk | hk | hk
  · by_cases hl : s.size ≤ 65536
    · exact act_add0 h hu hd hc hK hs hk1 hk hl
    · exact act_long0 h hu hd hc hK hs hk1 hk (by omega)
  · by_cases hl : s.size ≤ 65536
    · exact act_add1 h hu hd hc hK hs hk1 hk hl
    · exact act_long1 h hu hd hc hK hs hk1 hk (by omega)
  · exact act_flush h hu hd hc hk1 hk
  · by_cases hn0 : (0 : Int) ≤ n
    · by_cases hn : n < (L.length : Int)
      · obtain ⟨m, rfl⟩ := Int.eq_ofNat_of_zero_le hn0
        rcases hu.fm with ⟨rfl, rfl⟩ | ⟨g, c0, rfl, hcap⟩
        · simp at hn
          omega
        · by_cases hm0 : 0 < m
          · by_cases hl : s.size ≤ 65536
            · exact act_renew_some_ok h hu hd hc hK hs hk1 hk hl m rfl (by omega) hm0 rfl hcap
            · exact act_renew_some_long h hu hd hc hK hs hk1 hk (by omega) m rfl (by omega) hm0 rfl hcap
          · obtain rfl : m = 0 := by omega
            by_cases hl : s.size ≤ 65536
            · exact act_renew_zero_ok h hu hd hc hK hs hk1 hk hl rfl (by omega) rfl hcap
            · exact act_renew_zero_long h hu hd hc hK hs hk1 hk (by omega) rfl (by omega) rfl hcap
      · by_cases hl : s.size ≤ 65536
        · exact act_renew_big_ok h hu hd hc hK hs hk1 hk hl hn0 hn
        · exact act_renew_big_long h hu hd hc hK hs hk1 hk (by omega) hn0 hn
    · by_cases hl : s.size ≤ 65536
      · exact act_renew_neg_ok h hu hd hc hK hs hk1 hk hl hn0
      · exact act_renew_neg_long h hu hd hc hK hs hk1 hk (by omega) hn0
  · by_cases hn0 : n < 0
    · exact act_cutneg h hu hd hc hK hs hk1 hk hn0
    · by_cases hn : (L.length : Int) < n
      · exact act_cutbig h hu hd hc hK hs hk1 hk hn0 hn
      · obtain ⟨m, rfl⟩ := Int.eq_ofNat_of_zero_le (show 0 ≤ n by omega)
        rcases hu.fm with ⟨rfl, rfl⟩ | ⟨g, c0, rfl, hcap⟩
        · exact act_cutnil h hu hd hc hK hs hk1 m rfl (by omega) hk rfl rfl
        · exact act_cutrow h hu hd hc hK hs hk1 m rfl (by omega) hk rfl hcap
  · exact act_open h hu hd hc hK hs hk1 hk
end
end Go.Proofs.YtgncphoaknffnaaGreatDoor
namespace Go.Proofs.YtgncphoaknffnaaGreatDoor
open Go.RowKit
open Go.Deep
open Go.Lib
set_option linter.unusedVariables false
/-- What is done. -/
structure At where
  k : Int
  n : Int
  s : ByteArray
def At.cells (a : At) : List Value := [.int .i64 a.k, .int .i64 a.n, .string a.s]
def KA : Ek At := ⟨22, 35, 3, 32, At.cells, by decide, by decide, Tryz.underlying22, by kernel_rfl, fun _ => rfl, fun x v hv => by
  unfold At.cells at hv
  rcases List.mem_cons.1 hv with rfl | hv
  · rfl
  · rcases List.mem_cons.1 hv with rfl | hv
    · rfl
    · rcases List.mem_cons.1 hv with rfl | hv
      · rfl
      · cases hv⟩
section
variable {K : Nat → Prop} {B w W : World} {gj gd gm : Nat} {J : Jr} {x : StD} {T : Nat → Prop} {v u p q : Value} {L : List ByteArray}
theorem kb_js (h : JB K B w gj gd J x T v) (hK : KB K B) : KB (js T gj v) w := by
  refine ⟨hK.at_ h.bel, fun c => ?_⟩
  have up : K 0 ∨ B.heap.size ≤ 0 := by
    rcases c with c | c | c
    · exact h.far _ c
    · exact c ▸ h.jfar
    · exact (h.vfar _ c).1
  rcases up with c | c
  · exact hK.2 c
  · have := hK.1.lt
    omega
theorem MU.writeM {ao : Option Addr} {n c : Nat} {t : TypeId} (h : MU w T gj v u L) (hrow : w.heap[gm]? = some (.cells #[.slice ao n c, q] t (0, 0))) (f : Fr (fun k => k = gm) w W) : MU W T gj v u L := by
  by_cases e : u.ownBlock = some gm
  · have hL : L = [] := by
      cases hL : L with
      | nil => rfl
      | cons a r =>
        exfalso
        rcases h.fm with ⟨rfl, h0⟩ | ⟨g, c', rfl, _⟩
        · cases e
        · cases e
          have h1 := h.lx.cellS 0 a (by rw [hL]; rfl)
          rw [cell_of_row _ _ _ _ _ _ hrow] at h1
          cases h1
    subst hL
    refine ⟨?_, fun k hk => ⟨Nat.lt_of_lt_of_le (h.far k hk).1 f.size, (h.far k hk).2⟩, h.fm⟩
    rcases h.fm with ⟨rfl, _⟩ | ⟨g, c', rfl, hc⟩
    · exact LX.nil W
    · exact ⟨_, _, rfl, hc, fun i hi => by simp at hi⟩
  · exact h.write f e
end
section
set_option maxRecDepth 10000
set_option maxHeartbeats 4000000
theorem journalPlays_walk (vl : Value) (A : List At) (w : World) (hA : LX KA w vl A) (hl : A.length ≤ maxLen) (hz : ∀ a ∈ A, a.s.size ≤ maxLen) (hK : Kg w) : Calls Tryz.prog 3 #[vl] w fun e w' => e = .returned (.bool true) ∧ Below w.heap.size w w' := by
  have HN := hide (newD_any w)
  have HO := hide fun W T (h : DBk K0 w W w.heap.size x0 T) => open_x0 h logN ⟨hK, id⟩ okLog
  have HW := hide fun W (b : Below w.heap.size w W) => awakeJ_any W (hK.next b)
  have HKB : Hid (KB K0 w) := ⟨hK, id⟩
  have HA := hide hA
  have HL := hide hl
  have HZ := hide hz
  obtain ⟨ao, cl, rfl⟩ := hA.form
  unfold logN at HO
  clear hA hl hK hz
  go_enter Tryz.func3, Tryz.ntmps3
  go_upto_region 7 with (first | (go_at_call 5; refine HN.out.mono ?_; rintro e w1 ⟨rfl, d1, b1⟩; have D1 := hide (db_new d1 b1); clear d1 b1) | (go_at_call 6; refine (HO.out _ _ D1.out).mono ?_; rintro e w2 ⟨gj, T2, rfl, j2⟩; have J2 := hide j2; clear j2) | (go_at_call 7; refine (HW.out _ J2.out.bel.k0).mono ?_; rintro e w3 ⟨rfl, b3⟩; have J3 := hide (J2.out.next b3); clear b3))
  have b4 : Below w3.heap.size w3 (w3.alloc (.cells #[.slice none 0 0, .int .u64 0] 33)) := (Below.refl _ _).alloc (Nat.le_refl _) _
  have R0 := hide (heap_alloc_last w3 (.cells #[.slice none 0 0, .int .u64 0] 33))
  have J4 := hide (J3.out.next b4)
  have NJ : Hid (¬ js T2 gj (.slice none 0 0) w3.heap.size) := fun c => by
    rcases c with c | c | c
    · have := J3.out.dk.lt _ c
      omega
    · have := J3.out.lt
      omega
    · cases c
  have GM : Hid (w.heap.size ≤ w3.heap.size) := J3.out.bel.size
  generalize w3.alloc (.cells #[.slice none 0 0, .int .u64 0] 33) = W0 at *
  generalize w3.heap.size = gm at *
  clear J2 J3 D1 HN HO HW b4
  go_loopw [4, 7, 29] (fun j ok i wr => ok = .bool true ∧ ∃ (k g : Nat) (au : Option Addr) (cu ep : Nat) (L : List ByteArray) (torn : Nat) (x : StD) (T : Nat → Prop) (v : Value), k ≤ A.length ∧ i = .int .i64 (k : Int) ∧ j = .pointer (some ⟨g, 0, none⟩) ∧ Hid (k ≤ 60 ∧ wr.heap[gm]? = some (.cells #[.slice au L.length cu, .int .u64 (ep : Int)] 33 (0, 0)) ∧ JB K0 w wr g w.heap.size ⟨logN, ep, L, torn, false⟩ x T v ∧ MU wr T g v (.slice au L.length cu) L ∧ Ds x ep L k ∧ ¬ js T g v gm)) (fun _ _ i _ => (A.length - intOf i).toNat)
  case atStart => exact ⟨rfl, 0, gj, none, 0, 0, [], 0, xo logN, T2, .slice none 0 0, Nat.zero_le _, rfl, rfl, Nat.zero_le _, R0.out, J4.out, ⟨LX.nil _, (fun g hg => by cases hg), .inl ⟨rfl, rfl⟩⟩, Ds.fresh, NJ.out⟩
  case round =>
    clear J4 R0 NJ
    obtain ⟨rfl, k, g, au, cu, ep, L, torn, x, T, v, hk, rfl, rfl, HX⟩ := hrel
    by_cases hlt : k < A.length
    · have h1 : (0 : Int) ≤ (k : Int) := by omega
      have h2 : (k : Int) < A.length := by omega
      obtain ⟨ga, oa, rfl⟩ := HA.out.base (by omega)
      have hr := (HA.out.below HX.out.2.2.1.bel.k0).range k hlt
      have hzz := HZ.out A[k] (List.getElem_mem hlt)
      generalize A[k] = a at *
      obtain ⟨ak, an, as_⟩ := a
      have c0 : wr.cell? ⟨ga, oa + k * 3, none⟩ = some (.int .i64 ak) := hr 0 _ rfl
      have c1 : wr.cell? ⟨ga, oa + k * 3 + 1, none⟩ = some (.int .i64 an) := hr 1 _ rfl
      have c2 : wr.cell? ⟨ga, oa + k * 3 + 2, none⟩ = some (.string as_) := hr 2 _ rfl
      have hll := HL.out
      unfold maxLen at hll
      have e1 : IntKind.i64.wrap ((k : Int) + 1) = k + 1 := wrapI _ (by omega) (by omega)
      clear hr
      go_upto_region 9 with fail
      have b5 : Below wr.heap.size wr (wr.alloc (.cells #[.int .i64 ak, .int .i64 an, .string as_] 35)) := (Below.refl _ _).alloc (Nat.le_refl _) _
      have ra := heap_alloc_last wr (.cells #[.int .i64 ak, .int .i64 an, .string as_] 35)
      have J1 := hide (HX.out.2.2.1.next b5)
      have M1 := hide (HX.out.2.2.2.1.next b5)
      have rm := (b5.block _ (lt_heap HX.out.2.1)).trans HX.out.2.1
      have RM := hide rm
      have DS := hide HX.out.2.2.2.2.1
      have NJ := hide HX.out.2.2.2.2.2
      have a0 : (wr.alloc (.cells #[.int .i64 ak, .int .i64 an, .string as_] 35)).cell? ⟨wr.heap.size, 0, none⟩ = some (.int .i64 ak) := by rw [cell_of_row _ _ 0 _ _ _ ra]; rfl
      have a1 : (wr.alloc (.cells #[.int .i64 ak, .int .i64 an, .string as_] 35)).cell? ⟨wr.heap.size, 1, none⟩ = some (.int .i64 an) := by rw [cell_of_row _ _ 1 _ _ _ ra]; rfl
      have a2 : (wr.alloc (.cells #[.int .i64 ak, .int .i64 an, .string as_] 35)).cell? ⟨wr.heap.size, 2, none⟩ = some (.string as_) := by rw [cell_of_row _ _ 2 _ _ _ ra]; rfl
      have m0 : (wr.alloc (.cells #[.int .i64 ak, .int .i64 an, .string as_] 35)).cell? ⟨gm, 0, none⟩ = some (.slice au L.length cu) := by rw [cell_of_row _ _ 0 _ _ _ rm]; rfl
      have m1 : (wr.alloc (.cells #[.int .i64 ak, .int .i64 an, .string as_] 35)).cell? ⟨gm, 1, none⟩ = some (.int .u64 (ep : Int)) := by rw [cell_of_row _ _ 1 _ _ _ rm]; rfl
      clear rm ra b5 c0 c1 c2
      generalize wr.alloc (.cells #[.int .i64 ak, .int .i64 an, .string as_] 35) = W1 at *
      generalize wr.heap.size = g9 at *
      have hzz' : as_.size ≤ maxLen := hzz
      unfold maxLen at hzz'
      clear hzz
      by_cases h60 : (60 : Int) ≤ (k : Int)
      · go_wp2
        go_ret
        exact ⟨rfl, J1.out.bel.k0⟩
      · by_cases hbig : (70000 : Int) < as_.size
        · go_wp2
          go_ret
          exact ⟨rfl, J1.out.bel.k0⟩
        · have HC := hide (act_any (kind := ak) (n := an) (s := as_) J1.out.here M1.out DS.out (by omega) (kb_js J1.out HKB.out) (by omega))
          clear hzz' HX
          go_upto_region 11 with (go_at_call 8; refine HC.out.mono ?_; rintro e w2 ⟨g', u', ep', L', torn', x', T', v', rfl, j2, m2, d2⟩; obtain ⟨au', cu', rfl⟩ := m2.lx.form; have J2 := hide j2; have M2 := hide m2; have D2 := hide d2; have R2 := hide ((j2.bel.block _ (lt_heap RM.out) NJ.out).trans RM.out); have q0 : w2.cell? ⟨gm, 0, none⟩ = some (.slice au L.length cu) := (by rw [cell_of_row _ _ 0 _ _ _ R2.out]; rfl); have q1 : w2.cell? ⟨gm, 1, none⟩ = some (.int .u64 (ep : Int)) := (by rw [cell_of_row _ _ 1 _ _ _ R2.out]; rfl); have f0 := frozen_of_row _ _ 0 _ _ R2.out; have f1 := frozen_of_row _ _ 1 _ _ R2.out; clear j2 m2 d2)
          have hn2 := js_over J2.out (lt_heap RM.out) NJ.out
          have J3 : Hid (JB K0 w ((w2.setCell ⟨gm, 0, none⟩ (.slice au' L'.length cu')).setCell ⟨gm, 1, none⟩ (.int .u64 (ep' : Int))) g' w.heap.size ⟨logN, ep', L', torn', false⟩ x' T' v') := (J1.out.back J2.out).write (st2_fr w2 gm (.slice au' L'.length cu') (.int .u64 (ep' : Int))) (.inr GM.out) hn2
          have M3 : Hid (MU ((w2.setCell ⟨gm, 0, none⟩ (.slice au' L'.length cu')).setCell ⟨gm, 1, none⟩ (.int .u64 (ep' : Int))) T' g' v' (.slice au' L'.length cu') L') := M2.out.writeM R2.out (st2_fr w2 gm (.slice au' L'.length cu') (.int .u64 (ep' : Int)))
          have R3 : Hid (((w2.setCell ⟨gm, 0, none⟩ (.slice au' L'.length cu')).setCell ⟨gm, 1, none⟩ (.int .u64 (ep' : Int))).heap[gm]? = some (.cells #[.slice au' L'.length cu', .int .u64 (ep' : Int)] 33 (0, 0))) := st2_row R2.out
          have HN2 := hide hn2
          clear q0 q1 f0 f1 m0 m1 a0 a1 a2 hn2 HC
          generalize (w2.setCell ⟨gm, 0, none⟩ (.slice au' L'.length cu')).setCell ⟨gm, 1, none⟩ (.int .u64 (ep' : Int)) = W3 at *
          have m0 : W3.cell? ⟨gm, 0, none⟩ = some (.slice au' L'.length cu') := by rw [cell_of_row _ _ 0 _ _ _ R3.out]; rfl
          have m1 : W3.cell? ⟨gm, 1, none⟩ = some (.int .u64 (ep' : Int)) := by rw [cell_of_row _ _ 1 _ _ _ R3.out]; rfl
          have HC := hide (stands_any J3.out M3.out D2.out (by omega))
          clear J1 M1 J2 M2 R2 RM DS
          go_wp2_with (go_at_call 9; refine HC.out.mono ?_; rintro e w4 ⟨rfl, b4⟩; have B4 := hide b4; clear b4)
          go_roundw
          case rel => exact ⟨rfl, k + 1, g', au', cu', ep', L', torn', x', T', v', by omega, by go_num, rfl, by omega, (B4.out.block _ (lt_heap R3.out)).trans R3.out, J3.out.next B4.out, M3.out.next B4.out, D2.out, HN2.out⟩
          case measure => simp [intOf]; omega
    · have h2 : ¬ (k : Int) < A.length := by omega
      go_wp2
      go_ret
      exact ⟨rfl, HX.out.2.2.1.bel.k0⟩
end
end Go.Proofs.YtgncphoaknffnaaGreatDoor
namespace Go.Proofs.YtgncphoaknffnaaGreatDoor
open Go.ChangeShapes Go.WideShapes Go.ChangeAt Go.RowKit Go.Joins
set_option maxRecDepth 10000
theorem own : ownKnob Tryz.prog.godebug = none := by kernel_rfl
theorem laidOut : laidOutB Tryz.prog = true := by kernel_rfl
theorem gRounds : Tryz.prog.globalNamed "bedrock/sha.rounds" = some 0 := by kernel_rfl
theorem tRounds : (Tryz.prog.globals[0]?).map (·.type) = some 151 := by kernel_rfl
theorem cells5 : Tryz.prog.cellsOf 5 = 1 := by kernel_rfl
theorem cells29 : Tryz.prog.cellsOf 108 = 1 := by kernel_rfl
theorem cells66 : Tryz.prog.cellsOf 151 = 64 := by kernel_rfl
abbrev laid1 : List (String × DataW Unit) := [("bedrock/sha.rounds", Rows.laid_bedrock_sha_rounds)]
theorem rounds_eq : (Rows.laid_bedrock_sha_rounds : DataW Unit) = .agg (kL.map fun x => .lit (.int .u32 (x.toNat : Int))) := by kernel_rfl
set_option maxRecDepth 100000 in
theorem door_met (os : Os) (args : Array Value) : laidMetH Tryz.prog laid1 ((World.doorLaid Tryz.prog 400 os).forCall (fun _ _ => 0) ⟨#[], args, []⟩).memory :=
  laidMetH_of_parts3 (fuel := 8) (laidMet_of_run' 8 (by kernel_rfl) (by kernel_rfl)) (by kernel_rfl) (by kernel_rfl)
theorem of_laid {W : World} (h : laidMetH Tryz.prog laid1 W) : Kg W := by
  rw [MakeChecks.laidMetH_plain _ _ _ (by kernel_rfl)] at h
  obtain ⟨ps, ⟨g0, t0, cs0, f0, p0, q0, hg0, ht0, hv0, hd0, _, _⟩, _, _⟩ := h
  obtain rfl := Option.some.inj (gRounds.symm.trans hg0)
  obtain rfl := Option.some.inj (tRounds.symm.trans ht0)
  rw [rounds_eq] at hd0
  obtain ⟨xs, m1, rfl, hx1, hlen, hn, hel⟩ := DataW.trod_array Tryz.underlying151 hd0
  rw [cells66] at hlen
  rw [cells29] at hel
  simp only [Prod.mk.injEq, DataW.agg.injEq] at hx1
  intro j hj
  have hxj : xs[j]? = some (xs[j]'(by omega)) := List.getElem?_eq_getElem (by omega)
  have e := hel j hj
  rw [hxj, Nat.mul_one, List.drop_eq_getElem_cons (by omega)] at e
  simp only [List.take_succ_cons, List.take_zero] at e
  obtain ⟨a, ea, e2, _⟩ := DataW.trod_int Tryz.underlying108 e
  simp only [List.cons.injEq, and_true] at ea
  have h1 := congrArg (fun l : List (DataW Unit) => l[j]?) hx1.1
  simp only [List.getElem?_map, hxj, Option.map_some] at h1
  have hk : kL[j]? = some (kk j) := by
    rw [kk, List.getD_eq_getElem?_getD, List.getElem?_eq_getElem (by rw [kL_len]; exact hj)]
    rfl
  rw [hk, e2] at h1
  simp only [Option.map_some, Option.some.injEq, DataW.lit.injEq, Lit.int.injEq, true_and] at h1
  have hc := World.var?_cell hg0 hv0 j
  rw [hc, ← Array.getElem?_toList, List.getElem?_eq_getElem (by omega), ea, h1]
def byteOf : Value → UInt8
  | .int _ n => UInt8.ofNat n.toNat
  | _ => 0
def wordOf : Value → UInt32
  | .int _ n => UInt32.ofNat n.toNat
  | _ => 0
/-- An array of bytes that comes in. -/
theorem open_bytes {H : Type} {enc : TypeId × Value → H} {W : World} {base n : Nat} {t : TypeId} {v : Value} {d : DataW H} {p : List MemPlace} (hu : Tryz.prog.underlying t = some (.array n 5)) (hcs : Tryz.prog.cellsOf t = n)
    (hv : Value.okWide Tryz.prog W .any base t v) (h : DataW.Trod enc Tryz.prog W 0 (fun _ => true) true t v d p) : ∃ l : List UInt8, l.length = n ∧ v = .agg (hc l) := by
  simp only [Value.okWide, hu] at hv
  obtain ⟨cs, rfl, _, _⟩ := hv
  obtain ⟨fuel, hf⟩ := h
  obtain ⟨xs, m, rfl, hx, hlen, hxl, each⟩ := DataW.trod_array hu hf
  rw [hcs] at hlen
  have hsz : cs.size = n := by simpa [Value.cells] using hlen
  refine ⟨cs.toList.map byteOf, by simpa using hsz, ?_⟩
  have : cs = hc (cs.toList.map byteOf) := by
    apply Array.ext
    · rw [hc_size]; simp
    · intro i h1 h2
      have e := each i (by omega)
      rw [cells5, Nat.mul_one] at e
      have hxi : xs[i]? = some (xs[i]'(by omega)) := List.getElem?_eq_getElem (by omega)
      rw [hxi] at e
      obtain ⟨a, ea, _, wa⟩ := DataW.trod_int Tryz.underlying5 e
      have hab : 0 ≤ a ∧ a ≤ 255 := by simpa [Lit.wf, IntKind.min, IntKind.max, IntKind.signed, IntKind.bits] using wa
      have hc1 : (Value.agg cs).cells.toList.drop i = cs.toList.drop i := by simp [Value.cells]
      rw [hc1, List.drop_eq_getElem_cons (by simpa using h1)] at ea
      simp only [List.take_succ_cons, List.take_zero, List.cons.injEq, and_true] at ea
      have ei : cs[i] = Value.int .u8 a := by simpa using ea
      have e2 : (cs.toList.map byteOf)[i]? = some (UInt8.ofNat a.toNat) := by
        rw [List.getElem?_map, List.getElem?_eq_getElem (by simpa using h1)]
        simp [ei, byteOf]
      have e3 : (hc (cs.toList.map byteOf))[i]? = some (.int .u8 ((UInt8.ofNat a.toNat).toNat : Int)) := by
        rw [hc, List.getElem?_toArray, cellsL, List.getElem?_map, e2]; rfl
      rw [Array.getElem?_eq_getElem h2] at e3
      rw [ei, Option.some.inj e3, UInt8.toNat_ofNat']
      exact congrArg (Value.int .u8) (by omega)
  rw [← this]
/-- A state that comes in. -/
theorem open_state {H : Type} {enc : TypeId × Value → H} {W : World} {base : Nat} {t : TypeId} {v : Value} {d : DataW H} {p : List MemPlace} (hu : Tryz.prog.underlying t = some (.array 8 108)) (hcs : Tryz.prog.cellsOf t = 8)
    (hv : Value.okWide Tryz.prog W .any base t v) (h : DataW.Trod enc Tryz.prog W 0 (fun _ => true) true t v d p) : ∃ s : St, v = .agg (uc s.list) := by
  simp only [Value.okWide, hu] at hv
  obtain ⟨cs, rfl, _, _⟩ := hv
  obtain ⟨fuel, hf⟩ := h
  obtain ⟨xs, m, rfl, hx, hlen, hxl, each⟩ := DataW.trod_array hu hf
  rw [hcs] at hlen
  have hsz : cs.size = 8 := by simpa [Value.cells] using hlen
  have hl8 : (cs.toList.map wordOf).length = 8 := by simpa using hsz
  have : cs = uc (cs.toList.map wordOf) := by
    apply Array.ext
    · rw [uc_size]; simp
    · intro i h1 h2
      have e := each i (by omega)
      rw [cells29, Nat.mul_one] at e
      have hxi : xs[i]? = some (xs[i]'(by omega)) := List.getElem?_eq_getElem (by omega)
      rw [hxi] at e
      obtain ⟨a, ea, _, wa⟩ := DataW.trod_int Tryz.underlying108 e
      have hab : 0 ≤ a ∧ a ≤ 4294967295 := by simpa [Lit.wf, IntKind.min, IntKind.max, IntKind.signed, IntKind.bits] using wa
      have hc1 : (Value.agg cs).cells.toList.drop i = cs.toList.drop i := by simp [Value.cells]
      rw [hc1, List.drop_eq_getElem_cons (by simpa using h1)] at ea
      simp only [List.take_succ_cons, List.take_zero, List.cons.injEq, and_true] at ea
      have ei : cs[i] = Value.int .u32 a := by simpa using ea
      have e2 : (cs.toList.map wordOf)[i]? = some (UInt32.ofNat a.toNat) := by
        rw [List.getElem?_map, List.getElem?_eq_getElem (by simpa using h1)]
        simp [ei, wordOf]
      have e3 : (uc (cs.toList.map wordOf))[i]? = some (.int .u32 ((UInt32.ofNat a.toNat).toNat : Int)) := by
        rw [uc, List.getElem?_toArray, List.getElem?_map, e2]; rfl
      rw [Array.getElem?_eq_getElem h2] at e3
      rw [ei, Option.some.inj e3, UInt32.toNat_ofNat']
      exact congrArg (Value.int .u32) (by omega)
  rw [this]
  generalize cs.toList.map wordOf = L at hl8
  match L, hl8 with
  | [a, b, c, d, e, f, g, h], _ => exact ⟨⟨a, b, c, d, e, f, g, h⟩, rfl⟩
end Go.Proofs.YtgncphoaknffnaaGreatDoor
namespace Go.Proofs.YtgncphoaknffnaaGreatDoor
open Go.ChangeShapes Go.WideShapes Go.ChangeAt Go.RowKit Go.Joins Go.Deep
set_option linter.unusedVariables false
set_option maxRecDepth 100000
theorem cellPt : Tryz.prog.cellsOf 35 = 3 := by kernel_rfl
theorem cellSt : Tryz.prog.cellsOf 9 = 1 := by kernel_rfl
theorem cellNt : Tryz.prog.cellsOf 3 = 1 := by kernel_rfl
section
variable {H : Type} {enc : TypeId × Value → H} {W : World} {base fuel : Nat} {v : Value} {d : DataW H} {p : List MemPlace}
theorem trod_act {sp : Nat → Bool} {held : Bool} {b : Nat} {cs : List Value} {y : DataW H × List MemPlace} (h : DataW.trod enc Tryz.prog W b sp held fuel 35 cs = some y) : ∃ a : At, cs = a.cells ∧ a.s.size ≤ maxLen := by
  obtain ⟨xs, m, _, _, hlen, hxl, each⟩ := DataW.trod_struct Tryz.underlying35 h
  rw [cellPt] at hlen
  have hxl' : xs.length = 3 := hxl
  match cs, hlen with
  | [x0, x1, x2], _ =>
    have h0 : DataW.trod enc Tryz.prog W b sp held m 3 ((([x0, x1, x2] : List Value).drop 0).take (Tryz.prog.cellsOf 3)) = xs[0]? := each 0 _ rfl
    have h1 : DataW.trod enc Tryz.prog W b sp held m 3 ((([x0, x1, x2] : List Value).drop 1).take (Tryz.prog.cellsOf 3)) = xs[1]? := each 1 _ rfl
    have h2 : DataW.trod enc Tryz.prog W b sp held m 9 ((([x0, x1, x2] : List Value).drop 2).take (Tryz.prog.cellsOf 9)) = xs[2]? := each 2 _ rfl
    rw [cellNt, List.getElem?_eq_getElem (by omega)] at h0
    rw [cellNt, List.getElem?_eq_getElem (by omega)] at h1
    rw [cellSt, List.getElem?_eq_getElem (by omega)] at h2
    simp only [List.drop_succ_cons, List.drop_zero, List.take_succ_cons, List.take_zero] at h0 h1 h2
    obtain ⟨a, ea, _⟩ := DataW.trod_int Tryz.underlying3 h0
    obtain ⟨c, ec, _⟩ := DataW.trod_int Tryz.underlying3 h1
    obtain ⟨t, et, _, zt⟩ := DataW.trod_string Tryz.underlying9 h2
    obtain rfl := (List.cons.inj et).1
    obtain rfl := (List.cons.inj ea).1
    obtain rfl := (List.cons.inj ec).1
    exact ⟨⟨a, c, t⟩, rfl, zt⟩
theorem add_at (g o j : Nat) : (⟨g, o, none⟩ : Addr).add j = ⟨g, o + j, none⟩ := by unfold Addr.add; split <;> simp_all
theorem acts_of {ao : Option Addr} {len cap : Nat} {x : DataW H × List MemPlace} (h : DataW.trod enc Tryz.prog W 0 (fun _ => true) true fuel 22 [.slice ao len cap] = some x) : ∃ L, LX KA W (.slice ao len cap) L ∧ L.length ≤ maxLen ∧ ∀ a ∈ L, a.s.size ≤ maxLen := by
  rcases open_slice Tryz.underlying22 h with ⟨hcs, _⟩ | ⟨a, l, c, m, n, D, Pl, hcs, _, hl, hm, hmm, rfl, hx⟩
  · simp at hcs
    obtain ⟨rfl, rfl, rfl⟩ := hcs
    exact ⟨[], LX.nil _, Nat.zero_le _, fun a ha => by cases ha⟩
  · simp at hcs
    obtain ⟨rfl, rfl, rfl⟩ := hcs
    have each : ∀ i, i < len → ∃ q : At, q.s.size ≤ maxLen ∧ ∃ g off, some a = some (⟨g, off, none⟩ : Addr) ∧ g < W.heap.size ∧ W.rangeAt g (off + i * 3) q.cells := by
      intro i hi
      obtain ⟨cs', h1, h2⟩ := hx i (by rw [hmm]; split <;> omega)
      rw [cellPt] at h1
      obtain ⟨_, hlen, hcell⟩ := World.cells?_some h1
      obtain ⟨q, rfl, zt⟩ := trod_act h2
      obtain ⟨g, off, spot⟩ := a
      have hspot : spot = none := by
        obtain ⟨cz, hz1, hz2⟩ := hx 0 (by rw [hmm]; split <;> omega)
        rw [cellPt] at hz1
        obtain ⟨_, hzlen, hzcell⟩ := World.cells?_some hz1
        have cz0 := hzcell 0 (by omega)
        have h0 : cz[0]? = some (cz[0]'(by omega)) := List.getElem?_eq_getElem (by omega)
        rw [h0] at cz0
        simpa [Addr.add] using World.cell?_spot cz0
      subst hspot
      have hr : W.rangeAt g (off + i * 3) q.cells := fun j u hu => by
        have hj : j < 3 := by
          have := (List.getElem?_eq_some_iff.1 hu).1
          rwa [show q.cells.length = 3 from rfl] at this
        have := hcell j (by omega)
        rw [add_at, add_at, hu] at this
        exact this
      have hg : g < W.heap.size := block_lt_of_cell (a := ⟨g, off + i * 3 + 0, none⟩) (hr 0 (.int .i64 q.k) rfl)
      exact ⟨q, zt, g, off, rfl, hg, hr⟩
    haveI : Inhabited At := ⟨⟨0, 0, ⟨#[]⟩⟩⟩
    obtain ⟨F, hF⟩ := choose_lt each
    refine ⟨(List.range len).map F, ⟨some a, cap, by simp, by simpa using hl, fun i hi => ?_⟩, ?_, fun q hq => ?_⟩
    · have hi' : i < len := by simpa using hi
      have e : ((List.range len).map F)[i]'hi = F i := by simp
      rw [e]
      exact (hF i hi').2
    · unfold maxLen at hm ⊢
      simp
      omega
    · obtain ⟨i, hi, rfl⟩ := List.mem_map.1 hq
      exact (hF i (List.mem_range.1 hi)).1
/-- What is done, as it comes in. -/
theorem open_acts (hv : Value.okWide Tryz.prog W .any base 22 v) (h : DataW.Trod enc Tryz.prog W 0 (fun _ => true) true 22 v d p) : ∃ L, LX KA W v L ∧ L.length ≤ maxLen ∧ ∀ a ∈ L, a.s.size ≤ maxLen := by
  obtain ⟨ao, len, cap, rfl⟩ := okWide_slice Tryz.underlying22 hv
  obtain ⟨fuel, hf⟩ := h
  exact acts_of (x := (d, p)) (by simpa [Value.cells] using hf)
end
end Go.Proofs.YtgncphoaknffnaaGreatDoor
