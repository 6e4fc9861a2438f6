/- The document's disk: what it stands for; Files and Get. The document's disk: Get. -/
import Derived.Test.YthnfpdmhjennlaaV23
namespace Go.Proofs.Ythnfpdmhjennlaa
open Go.RowKit
open Go.Deep
open Go.Lib
set_option linter.unusedVariables false
def KCr : Ek Ch := ⟨27, 53, 5, 64, fun c => (chv c).toList, by decide, by decide, Try.underlying27, by kernel_rfl, fun _ => rfl, fun x v hv => by
  have := Array.all_eq_true_iff_forall_mem.1 (chv_one x) v (by simpa using hv)
  exact this⟩
def KFr : Ek Fl := ⟨28, 93, 4, 32, flv, by decide, by decide, Try.underlying28, by kernel_rfl, fun _ => rfl, KFl.one⟩
/-- The cells of the document's disk. -/
def dcs (vs vl : Value) (m : Nat) (vp : Value) (d : Bool) : Array Value := #[vs, vl, .int .i64 (m : Int), vp, .bool d]
/-- The document's disk stands for x, whatever is done to the blocks of K. -/
structure RD (K : Nat → Prop) (w : World) (vs vl vp : Value) (S : List Fi) (x : St) : Prop where
  sure : LXK KFi K w vs S
  rep : Rep S x.sure
  loose : LXK KCr K w vl x.loose
  plan : LXK KFr K w vp x.plan
theorem RD.below {K : Nat → Prop} {w w' : World} {vs vl vp : Value} {S : List Fi} {x : St} (h : RD K w vs vl vp S x) (b : Below w.heap.size w w') : RD K w' vs vl vp S x := ⟨h.sure.below b, h.rep, h.loose.below b, h.plan.below b⟩
theorem ADd : Arr 30 5 (dcs (.slice none 0 0) (.slice none 0 0) 0 (.slice none 0 0) false) := ⟨.inr ⟨_, Try.underlying30⟩, by kernel_rfl, fun w => by kernel_rfl, fun w => by kernel_rfl, rfl⟩
/-- The document's disk as a value. -/
def isD (K : Nat → Prop) (w : World) (v : Value) (x : St) : Prop := ∃ vs vl vp S, v = .agg (dcs vs vl x.made vp x.dead) ∧ RD K w vs vl vp S x
section
set_option maxRecDepth 10000
set_option maxHeartbeats 8000000
theorem rfiles_any (K : Nat → Prop) (x : St) (v : Value) (w : World) (hv : isD K w v x) (hV : Vd x) (hK : ∀ g, K g → g < w.heap.size) : Calls Try.prog 24 #[v] w fun e w' => ∃ v' L', e = .returned v' ∧ LXK KFi K w' v' L' ∧ Rep L' x.now ∧ Below w.heap.size w w' := by
  obtain ⟨vs, vl, vp, S, rfl, h⟩ := hv
  obtain ⟨ao, cs, rfl⟩ := h.sure.form
  obtain ⟨al, cl, rfl⟩ := h.loose.form
  obtain ⟨ap, cp, rfl⟩ := h.plan.form
  unfold dcs
  have hB : Below w.heap.size w (w.alloc (.cells #[.slice ao S.length cs, .slice al x.loose.length cl, .int .i64 (x.made : Int), .slice ap x.plan.length cp, .bool x.dead] 30)) := (Below.refl _ _).alloc (Nat.le_refl _) _
  have HB := hide hB
  have R1 := hide (heap_alloc_last w (.cells #[.slice ao S.length cs, .slice al x.loose.length cl, .int .i64 (x.made : Int), .slice ap x.plan.length cp, .bool x.dead] 30))
  have H1 := hide (h.below hB)
  have HK := hide hK
  have HVd := hide hV
  have HL := hide hV.many
  clear hB h hV hK
  go_enter Try.func24, Try.ntmps24
  go_upto_region 1 with fail
  generalize hgb : w.heap.size = gb at *
  generalize w.alloc (.cells #[.slice ao S.length cs, .slice al x.loose.length cl, .int .i64 (x.made : Int), .slice ap x.plan.length cp, .bool x.dead] 30) = W1 at *
  have C0 : Hid (∀ W : World, Below W1.heap.size W1 W → W.cell? ⟨gb, 0, none⟩ = some (.slice ao S.length cs) ∧ W.cell? ⟨gb, 1, none⟩ = some (.slice al x.loose.length cl)) := fun W b => by
    have e := (b.block _ (lt_heap R1.out)).trans R1.out
    refine ⟨?_, ?_⟩ <;> (rw [cell_of_row _ _ _ _ _ _ e]; rfl)
  obtain ⟨c0, c1⟩ := C0.out _ (Below.refl _ _)
  go_upto_region 3 with fail
  clear c0 c1
  go_loopw [3, 4] (fun u i wr => ∃ k : Nat, k ≤ x.loose.length ∧ i = .int .i64 (k : Int) ∧ ∃ L, Hid (LXK KFi K wr u L ∧ Rep L (doL x.sure (x.loose.take k)) ∧ Below W1.heap.size W1 wr)) (fun _ i _ => (x.loose.length - intOf i).toNat)
  case atStart => exact ⟨0, Nat.zero_le _, rfl, S, H1.out.sure, H1.out.rep, Below.refl _ _⟩
  case round =>
    obtain ⟨k, hk, rfl, L, J⟩ := hrel
    obtain ⟨c0, c1⟩ := C0.out _ J.out.2.2
    by_cases hlt : k < x.loose.length
    · obtain ⟨g, off, rfl⟩ := H1.out.loose.now.base (by omega)
      have hr := (H1.out.loose.now.below J.out.2.2).range k hlt
      have h0 : (0 : Int) ≤ (k : Int) := by omega
      have h2 : (k : Int) < x.loose.length := by omega
      have e1 : IntKind.i64.wrap ((k : Int) + 1) = k + 1 := wrapI _ (by omega) (by have := HL.out; omega)
      have OK : Hid (okD (doL x.sure (x.loose.take k)) x.loose[k]) := HVd.out.ok.at_ (List.getElem?_eq_getElem hlt)
      have NX : Hid (doL x.sure (x.loose.take (k + 1)) = doC (doL x.sure (x.loose.take k)) x.loose[k]) := by
        show _ = _
        unfold doL
        rw [List.take_succ_eq_append_getElem hlt, List.foldl_append]
        rfl
      generalize x.loose[k] = c at *
      have LT := hide hlt
      clear hlt hk
      obtain ⟨au, cu, rfl⟩ := J.out.1.form
      go_upto_region 4 with (first | ((with_reducible refine at_list ?_); refine wpList_loadCr rfl _ rfl g (off + k * 5) rfl c hr ?_) | (go_at_call 43; refine (rdo_any K L _ _ c _ J.out.1.now J.out.2.1 OK.out (fun q hq => by have h1 := HK.out q hq; have h2 := HB.out.size; rw [hgb] at h2; have h3 := J.out.2.2.size; omega)).mono ?_; rintro e W2 ⟨v2, L2, rfl, k2, r2, b2⟩; have J2 : Hid (LXK KFi K W2 v2 L2 ∧ Rep L2 (doL x.sure (x.loose.take (k + 1))) ∧ Below W1.heap.size W1 W2) := ⟨k2, by rw [NX.out]; exact r2, below_next J.out.2.2 b2⟩; clear k2 r2 b2))
      go_wp2
      go_round
      case rel => exact ⟨k + 1, LT.out, by go_num, L2, J2⟩
      case measure => have := LT.out; simp [intOf]; omega
    · have h2 : ¬ (k : Int) < x.loose.length := by omega
      have hkn : k = x.loose.length := by omega
      have JE : Hid (LXK KFi K wr u3 L ∧ Rep L x.now) := by
        refine ⟨J.out.1, ?_⟩
        have := J.out.2.1
        rw [hkn, List.take_length, ← HVd.out.now] at this
        exact this
      go_wp2
      go_ret
      refine ⟨_, rfl, L, JE.out.1, JE.out.2, ?_⟩
      have h1 := HB.out
      rw [← hgb] at h1 ⊢
      exact below_next h1 J.out.2.2
end
end Go.Proofs.Ythnfpdmhjennlaa
namespace Go.Proofs.Ythnfpdmhjennlaa
open Go.RowKit
open Go.Deep
open Go.Lib
set_option linter.unusedVariables false
theorem isD.next {K : Nat → Prop} {w w' : World} {v : Value} {x : St} (h : isD K w v x) (b : Below w.heap.size w w') : isD K w' v x := by
  obtain ⟨vs, vl, vp, S, e, h⟩ := h
  exact ⟨vs, vl, vp, S, e, h.below b⟩
theorem isD.form {K : Nat → Prop} {w : World} {v : Value} {x : St} (h : isD K w v x) : ∃ (ao : Option Addr) (n cs : Nat) (al : Option Addr) (cl : Nat) (ap : Option Addr) (cp : Nat), v = .agg #[.slice ao n cs, .slice al x.loose.length cl, .int .i64 (x.made : Int), .slice ap x.plan.length cp, .bool x.dead] := by
  obtain ⟨vs, vl, vp, S, rfl, h⟩ := h
  obtain ⟨ao, cs, rfl⟩ := h.sure.form
  obtain ⟨al, cl, rfl⟩ := h.loose.form
  obtain ⟨ap, cp, rfl⟩ := h.plan.form
  exact ⟨_, _, _, _, _, _, _, rfl⟩
theorem Vd.bd2 {x : St} (h : Vd x) : Bd x.now := by rw [h.now]; exact h.ok.end_
section
set_option maxRecDepth 10000
set_option maxHeartbeats 4000000
theorem rget_any (K : Nat → Prop) (x : St) (v : Value) (nm : ByteArray) (w : World) (hv : isD K w v x) (hV : Vd x) (hK : ∀ g, K g → g < w.heap.size) : Calls Try.prog 33 #[v, .string nm] w fun e w' => ∃ t : ByteArray, ls t = x.now.at (ls nm) ∧ e = .returned (.tuple #[.string t, .bool (x.now.get (ls nm)).isSome]) ∧ Below w.heap.size w w' := by
  obtain ⟨ao, n, cs, al, cl, ap, cp, rfl⟩ := hv.form
  have hB : Below w.heap.size w (w.alloc (.cells #[.slice ao n cs, .slice al x.loose.length cl, .int .i64 (x.made : Int), .slice ap x.plan.length cp, .bool x.dead] 30)) := (Below.refl _ _).alloc (Nat.le_refl _) _
  have HB := hide hB
  have R1 := hide (heap_alloc_last w (.cells #[.slice ao n cs, .slice al x.loose.length cl, .int .i64 (x.made : Int), .slice ap x.plan.length cp, .bool x.dead] 30))
  have H1 := hide (hv.next hB)
  have HK : Hid (∀ g, K g → g < (w.alloc (.cells #[.slice ao n cs, .slice al x.loose.length cl, .int .i64 (x.made : Int), .slice ap x.plan.length cp, .bool x.dead] 30)).heap.size) := fun g hg => Nat.lt_of_lt_of_le (hK g hg) hB.size
  have HVd := hide hV
  have HN := hide hV.bd2.n
  clear hB hv hV hK
  go_enter Try.func33, Try.ntmps33
  go_upto_region 1 with fail
  generalize hgb : w.heap.size = gb at *
  generalize w.alloc (.cells #[.slice ao n cs, .slice al x.loose.length cl, .int .i64 (x.made : Int), .slice ap x.plan.length cp, .bool x.dead] 30) = W1 at *
  go_upto_region 2 with (first | ((with_reducible refine at_list ?_); refine wpList_loadA ADd rfl _ rfl gb rfl _ rfl _ R1.out ?_) | (go_at_call 24; refine (rfiles_any K x _ _ H1.out HVd.out HK.out).mono ?_; rintro e W2 ⟨v2, L2, rfl, k2, r2, b2⟩; have K2 := hide k2; have Q2 := hide r2; have B2 := hide b2; clear k2 r2 b2))
  have HL := hide (show L2.length ≤ 64 by rw [← Q2.out.n]; exact HN.out)
  have FINB : Hid (Below w.heap.size w W2) := by
    have h1 := HB.out
    rw [← hgb] at h1
    exact below_next h1 B2.out
  clear R1 H1 HVd HN HK HB B2
  obtain ⟨a2, c2, rfl⟩ := K2.out.form
  go_upto_region 3 with (go_at_call 49; refine (rfind_any L2 _ nm _ K2.out.now (by have := HL.out; omega)).mono ?_; rintro e W3 ⟨rfl, hw3⟩; subst W3)
  rcases Q2.out.find nm with ⟨g0, e0⟩ | ⟨i, hi, e0, g0⟩
  · rw [e0]
    have q1 : (-1 : Int) < 0 := by omega
    go_wp2
    go_ret2
    refine ⟨⟨#[]⟩, ?_, by first | rfl | (rw [g0]; rfl), by first | exact FINB.out | (rw [← hgb]; exact FINB.out)⟩
    unfold FS.at
    rw [g0]
    rfl
  · rw [e0]
    obtain ⟨g, off, rfl⟩ := K2.out.now.base (by omega)
    have hrr := K2.out.now.range i hi
    have d1 : W2.cell? ⟨g, off + i * 2 + 1, none⟩ = some (.string L2[i].s) := hrr 1 _ rfl
    have q1 : ¬ (i : Int) < 0 := by omega
    have q0 : (0 : Int) ≤ (i : Int) := by omega
    have q2 : (i : Int) < L2.length := by omega
    go_wp2
    go_ret2
    refine ⟨L2[i].s, ?_, by first | rfl | (rw [g0]; rfl), by first | exact FINB.out | (rw [← hgb]; exact FINB.out)⟩
    unfold FS.at
    rw [g0]
    rfl
end
end Go.Proofs.Ythnfpdmhjennlaa
