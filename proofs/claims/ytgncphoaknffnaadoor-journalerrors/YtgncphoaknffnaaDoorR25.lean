/- Journals: awake. What the listed table gives the walks: K0 .. K63 in their cells; a world that has them. -/
import Derived.Test.YtgncphoaknffnaaDoorX24
import Derived.Test.YtgncphoaknffnaaDoorX02
import Derived.ProofKit
import Derived.LaidMore
import Derived.OpenShut
import Derived.Stop.Joined
import Derived.ShutString
import Derived.ChangeOld
import Derived.SizedLaws
import Derived.Lib.SmallJoins
namespace Go.Proofs.YtgncphoaknffnaaDoor
open Go.RowKit
open Go.Deep
open Go.Lib
set_option linter.unusedVariables false
theorem bg_now (x : StD) (nm : ByteArray) : (mkC x (bgC nm)).now = x.now.put (ls nm) (wr8 (x.now.at (ls nm)) 0 (headL 0)) := rfl
theorem bg_at {x : StD} {nm : ByteArray} (h : x.now.at (ls nm) = []) : (mkC x (bgC nm)).now.at (ls nm) = headL 0 := by
  rw [bg_now, h]
  unfold FS.at
  rw [FS.put_get, if_pos rfl]
  simp [wr8]
theorem bg_get (x : StD) (nm : ByteArray) : ((mkC x (bgC nm)).now.get (ls nm)).isSome = true := by
  rw [bg_now, FS.put_get, if_pos rfl]
  rfl
/-- A fresh disk's journal. -/
def xo (nm : ByteArray) : StD := syC (mkC x0 (bgC nm))
theorem fnd0 {nm : ByteArray} (h : isName (ls nm) = true) : fnd x0 nm = 2 := by
  unfold fnd rdy x0
  simp [h, FS.none]
theorem name_app {a b : List UInt8} (ha : isName a = true) (hb : b.all ofName = true) (hl : a.length + b.length ≤ 32) : isName (a ++ b) = true := by
  unfold isName at *
  simp at ha hb ⊢
  exact ⟨⟨⟨ha.1.1, hb⟩, by omega⟩, by omega⟩
theorem aside_name {nm : ByteArray} (h : okJ nm = true) : isName (ls (asideN nm)) = true := by
  have h1 := okJ_size h
  have h2 := okJ_name h
  have e : ls (asideN nm) = ls nm ++ [46, 116, 109, 112] := by
    unfold asideN ls
    simp
  rw [e]
  refine name_app h2 (by decide +kernel) ?_
  have : (ls nm).length = nm.size := by simp
  simp only [List.length_cons, List.length_nil]
  omega
theorem vd_xo {nm : ByteArray} (h : okJ nm = true) : Vd (xo nm) := (Vd.x0.mkC (bg_ok Vd.x0 (okJ_name h) (by decide)) (by decide) (by decide)).syC
section
set_option maxRecDepth 10000
set_option maxHeartbeats 2000000
theorem open_x0 {B w : World} {gd : Nat} {T : Nat → Prop} (h : DB B w gd x0 T) (nm : ByteArray) (hK : Kg B) (hn : okJ nm = true) : Calls Tryd.prog 15 #[.pointer (some ⟨gd, 0, none⟩), .string nm] w fun e w' => ∃ gj T', e = .returned (.tuple #[.pointer (some ⟨gj, 0, none⟩), .int .i64 0]) ∧ JB B w' gj gd ⟨nm, 0, [], 0, false⟩ (xo nm) T' (.slice none 0 0) :=
  open_fresh h nm hK hn (fnd0 (okJ_name hn)) (fnd0 (aside_name hn)) Vd.x0 rfl rfl (by decide) (by decide) (by decide)
theorem db_new {w w1 : World} (hd : DK w1 w.heap.size ⟨FS.none, FS.none, [], 0, [], false⟩ (fun g => g = w.heap.size)) (hb : Below w.heap.size w w1) : DB w w1 w.heap.size x0 (fun g => g = w.heap.size) := ⟨hd, hb, fun g hg => Nat.le_of_eq hg.symm⟩
def nmj : ByteArray := ⟨#[106]⟩
def abcJ : ByteArray := ⟨#[97, 98, 99]⟩
theorem okj : okJ nmj = true := by decide +kernel
def xp : StD := mkC (xo nmj) (adC ⟨nmj, 0, [], 0, false⟩ 20 abcJ)
theorem at_xo {nm : ByteArray} : (xo nm).now.at (ls nm) = headL 0 := bg_at rfl
theorem awakeJ_any (w : World) (hK : Kg w) : Calls Tryd.prog 7 #[] w fun e w' => e = .returned (.bool true) ∧ Below w.heap.size w w' := by
  have HN := hide (newD_any w)
  have HO := hide fun W T (h : DB w W w.heap.size x0 T) => open_x0 h nmj hK okj
  have hl : ((xo nmj).now.at (ls nmj)).length = 20 := by rw [at_xo, headL_len]
  have HA : Hid (∀ gj W T, JB w W gj w.heap.size ⟨nmj, 0, [], 0, false⟩ (xo nmj) T (.slice none 0 0) → Calls Tryd.prog 17 #[.pointer (some ⟨gj, 0, none⟩), .string abcJ] W fun e w' => e = .returned (.int .i64 0) ∧ ∃ T' v', JB w w' gj w.heap.size ⟨nmj, 0, [abcJ], 0, false⟩ xp T' v') := fun gj W T h => by
    have := add_ok h hK abcJ rfl (by decide) (by unfold U64; decide) (by decide) (vd_xo okj) rfl (rdyJ rfl okj) (by show ((xo nmj).now.at (ls nmj)).length + _ ≤ _; rw [hl]; decide) (bg_get _ _) (by decide) (by decide)
    rw [show (⟨nmj, 0, [], 0, false⟩ : Jr).nm = nmj from rfl, hl] at this
    exact this
  have hvp : Vd xp := (vd_xo okj).mkC (wr_ok (vd_xo okj).bd (okJ_name okj) (by rw [hl]; exact Nat.le_refl _) (by rw [txtJ_size, recL_len]; decide) (.inl (bg_get _ _))) (by decide) (by decide)
  have HG := hide fun gj W T v (h : JB w W gj w.heap.size ⟨nmj, 0, [abcJ], 0, false⟩ xp T v) => getJ_any h 0 abcJ rfl
  have HL := hide fun gj W T v (h : JB w W gj w.heap.size ⟨nmj, 0, [abcJ], 0, false⟩ xp T v) => lenJ_any h
  have HF := hide fun gj W T v (h : JB w W gj w.heap.size ⟨nmj, 0, [abcJ], 0, false⟩ xp T v) => flush_ok h rfl hvp rfl rfl
  clear hl hvp hK
  unfold nmj at HO
  unfold abcJ at HA HG HL HF
  go_enter Tryd.func7, Tryd.ntmps7
  go_wp2_with (first | (go_at_call 14; refine HN.out.mono ?_; rintro e w1 ⟨rfl, d1, b1⟩; have D1 := hide (db_new d1 b1); clear d1 b1) | (go_at_call 15; refine (HO.out _ _ D1.out).mono ?_; rintro e w2 ⟨gj, T2, rfl, j2⟩; have J2 := hide j2; clear j2) | (go_at_call 17; refine (HA.out _ _ _ J2.out).mono ?_; rintro e w3 ⟨rfl, T3, v3, j3⟩; have J3 := hide j3; clear j3) | (go_at_call 21; refine (HG.out _ _ _ _ J3.out).mono ?_; rintro e w4 ⟨rfl, hw⟩; subst w4) | (go_at_call 24; refine (HL.out _ _ _ _ J3.out).mono ?_; rintro e w4 ⟨rfl, hw⟩; subst w4) | (go_at_call 18; refine (HF.out _ _ _ _ J3.out).mono ?_; rintro e w5 ⟨rfl, T5, j5⟩; have J5 := hide j5; clear j5))
  go_ret
  exact ⟨rfl, J5.out.bel⟩
end
end Go.Proofs.YtgncphoaknffnaaDoor
namespace Go.Proofs.YtgncphoaknffnaaDoor
open Go.ChangeShapes Go.WideShapes Go.ChangeAt Go.RowKit Go.Joins
set_option maxRecDepth 10000
theorem own : ownKnob Tryd.prog.godebug = none := by kernel_rfl
theorem laidOut : laidOutB Tryd.prog = true := by kernel_rfl
theorem gRounds : Tryd.prog.globalNamed "bedrock/sha.rounds" = some 0 := by kernel_rfl
theorem tRounds : (Tryd.prog.globals[0]?).map (·.type) = some 136 := by kernel_rfl
theorem cells5 : Tryd.prog.cellsOf 5 = 1 := by kernel_rfl
theorem cells29 : Tryd.prog.cellsOf 56 = 1 := by kernel_rfl
theorem cells66 : Tryd.prog.cellsOf 136 = 64 := by kernel_rfl
abbrev laid1 : List (String × DataW Unit) := [("bedrock/sha.rounds", Rows.laid_bedrock_sha_rounds)]
theorem rounds_eq : (Rows.laid_bedrock_sha_rounds : DataW Unit) = .agg (kL.map fun x => .lit (.int .u32 (x.toNat : Int))) := by kernel_rfl
set_option maxRecDepth 100000 in
theorem door_met (os : Os) (args : Array Value) : laidMetH Tryd.prog laid1 ((World.doorLaid Tryd.prog 400 os).forCall (fun _ _ => 0) ⟨#[], args, []⟩).memory :=
  laidMetH_of_parts3 (fuel := 8) (laidMet_of_run' 8 (by kernel_rfl) (by kernel_rfl)) (by kernel_rfl) (by kernel_rfl)
theorem of_laid {W : World} (h : laidMetH Tryd.prog laid1 W) : Kg W := by
  rw [MakeChecks.laidMetH_plain _ _ _ (by kernel_rfl)] at h
  obtain ⟨ps, ⟨g0, t0, cs0, f0, p0, q0, hg0, ht0, hv0, hd0, _, _⟩, _, _⟩ := h
  obtain rfl := Option.some.inj (gRounds.symm.trans hg0)
  obtain rfl := Option.some.inj (tRounds.symm.trans ht0)
  rw [rounds_eq] at hd0
  obtain ⟨xs, m1, rfl, hx1, hlen, hn, hel⟩ := DataW.trod_array Tryd.underlying136 hd0
  rw [cells66] at hlen
  rw [cells29] at hel
  simp only [Prod.mk.injEq, DataW.agg.injEq] at hx1
  intro j hj
  have hxj : xs[j]? = some (xs[j]'(by omega)) := List.getElem?_eq_getElem (by omega)
  have e := hel j hj
  rw [hxj, Nat.mul_one, List.drop_eq_getElem_cons (by omega)] at e
  simp only [List.take_succ_cons, List.take_zero] at e
  obtain ⟨a, ea, e2, _⟩ := DataW.trod_int Tryd.underlying56 e
  simp only [List.cons.injEq, and_true] at ea
  have h1 := congrArg (fun l : List (DataW Unit) => l[j]?) hx1.1
  simp only [List.getElem?_map, hxj, Option.map_some] at h1
  have hk : kL[j]? = some (kk j) := by
    rw [kk, List.getD_eq_getElem?_getD, List.getElem?_eq_getElem (by rw [kL_len]; exact hj)]
    rfl
  rw [hk, e2] at h1
  simp only [Option.map_some, Option.some.injEq, DataW.lit.injEq, Lit.int.injEq, true_and] at h1
  have hc := World.var?_cell hg0 hv0 j
  rw [hc, ← Array.getElem?_toList, List.getElem?_eq_getElem (by omega), ea, h1]
def byteOf : Value → UInt8
  | .int _ n => UInt8.ofNat n.toNat
  | _ => 0
def wordOf : Value → UInt32
  | .int _ n => UInt32.ofNat n.toNat
  | _ => 0
/-- An array of bytes that comes in. -/
theorem open_bytes {H : Type} {enc : TypeId × Value → H} {W : World} {base n : Nat} {t : TypeId} {v : Value} {d : DataW H} {p : List MemPlace} (hu : Tryd.prog.underlying t = some (.array n 5)) (hcs : Tryd.prog.cellsOf t = n)
    (hv : Value.okWide Tryd.prog W .any base t v) (h : DataW.Trod enc Tryd.prog W 0 (fun _ => true) true t v d p) : ∃ l : List UInt8, l.length = n ∧ v = .agg (hc l) := by
  simp only [Value.okWide, hu] at hv
  obtain ⟨cs, rfl, _, _⟩ := hv
  obtain ⟨fuel, hf⟩ := h
  obtain ⟨xs, m, rfl, hx, hlen, hxl, each⟩ := DataW.trod_array hu hf
  rw [hcs] at hlen
  have hsz : cs.size = n := by simpa [Value.cells] using hlen
  refine ⟨cs.toList.map byteOf, by simpa using hsz, ?_⟩
  have : cs = hc (cs.toList.map byteOf) := by
    apply Array.ext
    · rw [hc_size]; simp
    · intro i h1 h2
      have e := each i (by omega)
      rw [cells5, Nat.mul_one] at e
      have hxi : xs[i]? = some (xs[i]'(by omega)) := List.getElem?_eq_getElem (by omega)
      rw [hxi] at e
      obtain ⟨a, ea, _, wa⟩ := DataW.trod_int Tryd.underlying5 e
      have hab : 0 ≤ a ∧ a ≤ 255 := by simpa [Lit.wf, IntKind.min, IntKind.max, IntKind.signed, IntKind.bits] using wa
      have hc1 : (Value.agg cs).cells.toList.drop i = cs.toList.drop i := by simp [Value.cells]
      rw [hc1, List.drop_eq_getElem_cons (by simpa using h1)] at ea
      simp only [List.take_succ_cons, List.take_zero, List.cons.injEq, and_true] at ea
      have ei : cs[i] = Value.int .u8 a := by simpa using ea
      have e2 : (cs.toList.map byteOf)[i]? = some (UInt8.ofNat a.toNat) := by
        rw [List.getElem?_map, List.getElem?_eq_getElem (by simpa using h1)]
        simp [ei, byteOf]
      have e3 : (hc (cs.toList.map byteOf))[i]? = some (.int .u8 ((UInt8.ofNat a.toNat).toNat : Int)) := by
        rw [hc, List.getElem?_toArray, cellsL, List.getElem?_map, e2]; rfl
      rw [Array.getElem?_eq_getElem h2] at e3
      rw [ei, Option.some.inj e3, UInt8.toNat_ofNat']
      exact congrArg (Value.int .u8) (by omega)
  rw [← this]
/-- A state that comes in. -/
theorem open_state {H : Type} {enc : TypeId × Value → H} {W : World} {base : Nat} {t : TypeId} {v : Value} {d : DataW H} {p : List MemPlace} (hu : Tryd.prog.underlying t = some (.array 8 56)) (hcs : Tryd.prog.cellsOf t = 8)
    (hv : Value.okWide Tryd.prog W .any base t v) (h : DataW.Trod enc Tryd.prog W 0 (fun _ => true) true t v d p) : ∃ s : St, v = .agg (uc s.list) := by
  simp only [Value.okWide, hu] at hv
  obtain ⟨cs, rfl, _, _⟩ := hv
  obtain ⟨fuel, hf⟩ := h
  obtain ⟨xs, m, rfl, hx, hlen, hxl, each⟩ := DataW.trod_array hu hf
  rw [hcs] at hlen
  have hsz : cs.size = 8 := by simpa [Value.cells] using hlen
  have hl8 : (cs.toList.map wordOf).length = 8 := by simpa using hsz
  have : cs = uc (cs.toList.map wordOf) := by
    apply Array.ext
    · rw [uc_size]; simp
    · intro i h1 h2
      have e := each i (by omega)
      rw [cells29, Nat.mul_one] at e
      have hxi : xs[i]? = some (xs[i]'(by omega)) := List.getElem?_eq_getElem (by omega)
      rw [hxi] at e
      obtain ⟨a, ea, _, wa⟩ := DataW.trod_int Tryd.underlying56 e
      have hab : 0 ≤ a ∧ a ≤ 4294967295 := by simpa [Lit.wf, IntKind.min, IntKind.max, IntKind.signed, IntKind.bits] using wa
      have hc1 : (Value.agg cs).cells.toList.drop i = cs.toList.drop i := by simp [Value.cells]
      rw [hc1, List.drop_eq_getElem_cons (by simpa using h1)] at ea
      simp only [List.take_succ_cons, List.take_zero, List.cons.injEq, and_true] at ea
      have ei : cs[i] = Value.int .u32 a := by simpa using ea
      have e2 : (cs.toList.map wordOf)[i]? = some (UInt32.ofNat a.toNat) := by
        rw [List.getElem?_map, List.getElem?_eq_getElem (by simpa using h1)]
        simp [ei, wordOf]
      have e3 : (uc (cs.toList.map wordOf))[i]? = some (.int .u32 ((UInt32.ofNat a.toNat).toNat : Int)) := by
        rw [uc, List.getElem?_toArray, List.getElem?_map, e2]; rfl
      rw [Array.getElem?_eq_getElem h2] at e3
      rw [ei, Option.some.inj e3, UInt32.toNat_ofNat']
      exact congrArg (Value.int .u32) (by omega)
  rw [this]
  generalize cs.toList.map wordOf = L at hl8
  match L, hl8 with
  | [a, b, c, d, e, f, g, h], _ => exact ⟨⟨a, b, c, d, e, f, g, h⟩, rfl⟩
end Go.Proofs.YtgncphoaknffnaaDoor
