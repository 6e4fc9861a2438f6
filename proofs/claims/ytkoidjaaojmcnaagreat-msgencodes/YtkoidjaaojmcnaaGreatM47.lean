/- What a compact block has, taken out of a payload. Messages, taken out of a payload: the kinds 5. -/
import Derived.Test.YtkoidjaaojmcnaaGreatM46
import Derived.Test.YtkoidjaaojmcnaaGreatM27
namespace Go.Proofs.YtkoidjaaojmcnaaGreat
open Go.RowKit
open Go.Deep
set_option linter.unusedVariables false
set_option linter.unusedSimpArgs false
/-- A call that may change the reader, the place ahead and the parts, and left the parts as they were. -/
theorem Rfk.rfrP {V W : World} {b c gp : Nat} {o : Obj} (f : Rfk (fun j => j = b ∨ j = c ∨ j = gp) (V.alloc o) W) (hc : V.heap.size ≤ c) (hg : W.heap[gp]? = (V.alloc o).heap[gp]?) : Rfr b V W := by
  have b1 := (Below.refl V.heap.size V).alloc (Nat.le_refl _) o
  refine ⟨f.os.trans b1.os, f.tape.trans b1.tape, f.output.trans b1.output, Nat.le_trans b1.size f.size, fun k hk hn => ?_⟩
  by_cases h : k = gp
  · subst h
    exact hg.trans (b1.block _ hk)
  · exact (f.block k (Nat.lt_of_lt_of_le hk b1.size) (fun e => by rcases e with e | e | e <;> omega)).trans (b1.block k hk)
section
set_option maxRecDepth 10000
set_option maxHeartbeats 2000000
theorem filled_on (L : List Fd) (b gp : Nat) (t : ByteArray) (Y : List UInt8) (hn : L.length ≤ 500) (hr : riseP (-1) (L.map Fd.place)) (hx4 : ∀ x ∈ L, x.raw.size ≤ 4096) (hs : t.size ≤ maxLen) (n1 : gp ≠ b) (V : World) (h0 : Gr V b t (countL L.length ++ (fillL (-1) L ++ Y))) (hp : V.heap[gp]? = some (.cells #[.pointer (some ⟨b, 0, none⟩), .string t] 85 (0, 0))) :
    Calls Tryz.prog 120 #[.agg #[.pointer (some ⟨b, 0, none⟩), .string t], .int .u64 500, .func (.func 121) #[] #[.pointer (some ⟨gp, 0, none⟩), .pointer (some ⟨V.heap.size, 0, none⟩)]] (V.alloc (.cells #[.int .i64 (-1)] 3)) fun e w' => ∃ u, e = .returned u ∧ OX KF w' u L ∧ (∀ g, u.ownBlock = some g → V.heap.size ≤ g) ∧ Gr w' b t Y ∧ Rfr b V w' := by
  have b1 := (Below.refl V.heap.size V).alloc (Nat.le_refl _) (.cells #[.int .i64 (-1)] 3)
  have l1 := h0.lt
  have l2 := lt_heap hp
  refine (list_filled L b gp V.heap.size t Y hn hr hx4 hs _ n1 (by omega) (by omega) ⟨h0.below b1, (b1.block _ l2).trans hp, heap_alloc_last V _⟩).mono ?_
  rintro e W ⟨u, rfl, o, far, g, hg, f⟩
  exact ⟨u, rfl, o, fun k hk => Nat.le_trans b1.size (far k hk), g, f.rfrP (Nat.le_refl _) hg⟩
theorem places_on (L : List Int) (b gp : Nat) (t : ByteArray) (Y : List UInt8) (hn : L.length ≤ 500) (hr : riseP (-1) L) (hs : t.size ≤ maxLen) (n1 : gp ≠ b) (V : World) (h0 : Gr V b t (countL L.length ++ (gapsL (-1) L ++ Y))) (hp : V.heap[gp]? = some (.cells #[.pointer (some ⟨b, 0, none⟩), .string t] 85 (0, 0))) :
    Calls Tryz.prog 91 #[.agg #[.pointer (some ⟨b, 0, none⟩), .string t], .int .u64 500, .func (.func 92) #[] #[.pointer (some ⟨gp, 0, none⟩), .pointer (some ⟨V.heap.size, 0, none⟩)]] (V.alloc (.cells #[.int .i64 (-1)] 3)) fun e w' => ∃ u, e = .returned u ∧ OX KP w' u L ∧ (∀ g, u.ownBlock = some g → V.heap.size ≤ g) ∧ Gr w' b t Y ∧ Rfr b V w' := by
  have b1 := (Below.refl V.heap.size V).alloc (Nat.le_refl _) (.cells #[.int .i64 (-1)] 3)
  have l1 := h0.lt
  have l2 := lt_heap hp
  refine (list_place L b gp V.heap.size t Y hn hr hs _ n1 (by omega) (by omega) ⟨h0.below b1, (b1.block _ l2).trans hp, heap_alloc_last V _⟩).mono ?_
  rintro e W ⟨u, rfl, o, far, g, hg, f⟩
  exact ⟨u, rfl, o, fun k hk => Nat.le_trans b1.size (far k hk), g, f.rfrP (Nat.le_refl _) hg⟩
theorem compact_on (m p : Mg) (v : Vs) {K : Nat → Prop} {w : World} {b g5 : Nat} {t : ByteArray} {Y : List UInt8} (h : Mx K w w b t (m.payC ++ Y) g5 p v) (hh : m.head.size = 80) (hsn : m.shorts.length ≤ 500) (hs6 : ∀ x ∈ m.shorts, x.toNat ≤ 281474976710655) (hfn : m.filled.length ≤ 500) (hf4 : ∀ x ∈ m.filled, x.raw.size ≤ 4096) (hfr : riseP (-1) (m.filled.map Fd.place)) (hs : t.size ≤ maxLen) :
    Calls Tryz.prog 90 #[pv b t, .pointer (some ⟨g5, 0, none⟩)] w fun e w' => ∃ v', e = .returned (.tuple #[]) ∧ Mx K w w' b t Y g5 { p with head := m.head, nonce := m.nonce, shorts := m.shorts, filled := m.filled } v' := by
  have r1 := heap_alloc_last w (.cells #[.pointer (some ⟨b, 0, none⟩), .string t] 85)
  have b1 := (Below.refl w.heap.size w).alloc (Nat.le_refl _) (.cells #[.pointer (some ⟨b, 0, none⟩), .string t] 85)
  have lb := And.intro h.rd.lt (lt_heap h.row)
  have LB := hide lb
  have F0 := hide (Rfk.below (K := Kbg b g5) b1)
  have j0 := (h.next b1).base
  have KL := hide h.kl
  have PX : Hid (∀ W, Rfk (Kbg b g5) (w.alloc (.cells #[.pointer (some ⟨b, 0, none⟩), .string t] 85)) W → W.heap[w.heap.size]? = some (.cells #[.pointer (some ⟨b, 0, none⟩), .string t] 85 (0, 0))) := fun W f => (f.block _ (lt_heap r1) (fun k => by have := LB.out; rcases k with k | k <;> omega)).trans r1
  have PC : Hid (∀ W : World, W.heap[w.heap.size]? = some (.cells #[.pointer (some ⟨b, 0, none⟩), .string t] 85 (0, 0)) → W.cell? ⟨w.heap.size, 0, none⟩ = some (.pointer (some ⟨b, 0, none⟩))) := fun W e => by rw [cell_of_row _ _ _ _ _ _ e]; rfl
  have hl : m.head.data.toList.length = m.head.size := by simp
  unfold Mg.payC at j0
  simp only [List.append_assoc] at j0
  have H4 : Hid (∀ V : World, Gr V b t (countL m.filled.length ++ (fillL (-1) m.filled ++ Y)) → V.heap[w.heap.size]? = some (.cells #[.pointer (some ⟨b, 0, none⟩), .string t] 85 (0, 0)) → Calls Tryz.prog 120 #[.agg #[.pointer (some ⟨b, 0, none⟩), .string t], .int .u64 500, .func (.func 121) #[] #[.pointer (some ⟨w.heap.size, 0, none⟩), .pointer (some ⟨V.heap.size, 0, none⟩)]] (V.alloc (.cells #[.int .i64 (-1)] 3)) fun e w' => ∃ u, e = .returned u ∧ OX KF w' u m.filled ∧ (∀ g, u.ownBlock = some g → V.heap.size ≤ g) ∧ Gr w' b t Y ∧ Rfr b V w') := fun V g e => filled_on m.filled b w.heap.size t Y hfn hfr hf4 hs (by omega) V g e
  generalize countL m.filled.length ++ (fillL (-1) m.filled ++ Y) = R3 at *
  have H3 : Hid (∀ W : World, Gr W b t (countL m.shorts.length ++ (m.shorts.flatMap (fun x : UInt64 => lowL x.toNat 6) ++ R3)) → Calls Tryz.prog 118 #[.agg #[.pointer (some ⟨b, 0, none⟩), .string t], .int .u64 500, .func (.func 119) #[.agg #[.pointer (some ⟨b, 0, none⟩), .string t]] #[]] W fun e w' => ∃ u, e = .returned u ∧ OX KU w' u m.shorts ∧ (∀ g, u.ownBlock = some g → W.heap.size ≤ g) ∧ Gr w' b t R3 ∧ Rfr b W w') := fun W g => list_short m.shorts b t R3 hsn hs6 hs W g
  generalize countL m.shorts.length ++ (m.shorts.flatMap (fun x : UInt64 => lowL x.toNat 6) ++ R3) = R2 at *
  have H2 : Hid (∀ W, Gr W b t (lowL m.nonce.toNat 8 ++ R2) → Calls Tryz.prog 77 #[.pointer (some ⟨b, 0, none⟩)] W fun e w' => e = .returned (.int .u64 (m.nonce.toNat : Int)) ∧ Gr w' b t R2 ∧ Rfr b W w') := fun W g => g.u64 m.nonce.toNat m.nonce.toNat_lt hs
  generalize lowL m.nonce.toNat 8 ++ R2 = R1 at *
  have H1 : Hid (∀ W, Gr W b t (m.head.data.toList ++ R1) → Calls Tryz.prog 87 #[.pointer (some ⟨b, 0, none⟩), .int .i64 80] W fun e w' => e = .returned (.string m.head) ∧ Gr w' b t R1 ∧ Rfr b W w') := fun W g => by
    have := g.bytes m.head.data.toList hs (by omega)
    rw [hl, hh] at this
    exact this
  have J0 := hide j0
  clear h hh hsn hs6 hfn hf4 hfr hs r1 b1 lb j0 hl
  unfold pv
  go_enter Tryz.func90, Tryz.ntmps90
  go_upto_region 1 with fail
  generalize w.alloc (.cells #[.pointer (some ⟨b, 0, none⟩), .string t] 85) = A at *
  have P1 := hide (PX.out _ J0.out.fr)
  have c0 := PC.out _ P1.out
  go_upto_region 2 with (go_at_call 87; refine (H1.out _ J0.out.rd).mono ?_; rintro e W1 ⟨rfl, g1, f1⟩; have K1 := hide (J0.out.read g1 f1); have f3 := K1.out.frozen 115; have c3 := K1.out.cell 115 (by decide); clear g1 f1)
  have J1 := hide (K1.out.head m.head)
  clear J0 K1 H1 c0 P1 c3 f3
  generalize W1.setCell ⟨g5, 115, none⟩ (.string m.head) = V1 at *
  have P2 := hide (PX.out _ J1.out.fr)
  have c0 := PC.out _ P2.out
  go_upto_region 3 with (go_at_call 77; refine (H2.out _ J1.out.rd).mono ?_; rintro e W2 ⟨rfl, g1, f1⟩; have K2 := hide (J1.out.read g1 f1); have f3 := K2.out.frozen 3; have c3 := K2.out.cell 3 (by decide); clear g1 f1)
  have J2 := hide (K2.out.nonce m.nonce)
  clear J1 K2 H2 c0 P2 c3 f3
  generalize W2.setCell ⟨g5, 3, none⟩ (.int .u64 (m.nonce.toNat : Int)) = V2 at *
  have P3 := hide (PX.out _ J2.out.fr)
  go_upto_region 4 with (first | (go_at_call 118; refine (H3.out _ J2.out.rd).mono ?_; rintro e W3 ⟨u3, rfl, o3, far3, g1, f1⟩; obtain ⟨ao3, cp3, rfl⟩ := o3.form; have K3 := hide (J2.out.read g1 f1); have O3 := hide o3; have N3 := hide (J2.out.far far3); have f3 := K3.out.frozen 117; have c3 := K3.out.cell 117 (by decide); clear g1 f1 o3 far3) | ((with_reducible refine at_list ?_); refine wpList_loadS APa _ rfl w.heap.size rfl #[.pointer (some ⟨b, 0, none⟩), .string t] rfl 85 P3.out (by rfl) ?_))
  have J3 := hide (K3.out.shorts _ m.shorts O3.out N3.out)
  clear J2 K3 H3 P3 c3 f3 O3 N3
  generalize W3.setCell ⟨g5, 117, none⟩ (.slice ao3 m.shorts.length cp3) = V3 at *
  have P4 := hide (PX.out _ J3.out.fr)
  go_upto_region 5 with fail
  have PA := hide (((Below.refl V3.heap.size V3).alloc (Nat.le_refl _) (.cells #[.int .i64 (-1)] 3)).block _ (lt_heap P4.out) |>.trans P4.out)
  have HF := hide (H4.out V3 J3.out.rd P4.out)
  clear H4 P4 PC PX
  generalize V3.alloc (.cells #[.int .i64 (-1)] 3) = VA at *
  go_wp2_with (first | (go_at_call 120; refine HF.out.mono ?_; rintro e W5 ⟨u5, rfl, o5, far5, g1, f1⟩; obtain ⟨ao5, cp5, rfl⟩ := o5.form; have K5 := hide (J3.out.read g1 f1); have O5 := hide o5; have N5 := hide (J3.out.far far5); have f3 := K5.out.frozen 118; have c3 := K5.out.cell 118 (by decide); clear g1 f1 o5 far5) | ((with_reducible refine at_list ?_); refine wpList_loadS APa _ rfl w.heap.size rfl #[.pointer (some ⟨b, 0, none⟩), .string t] rfl 85 PA.out (by rfl) ?_))
  exact bodyPost_end (results_none (by kernel_rfl) _ _ _) rfl ⟨_, rfl, Mx.over F0.out KL.out (K5.out.filled _ m.filled O5.out N5.out)⟩
end
end Go.Proofs.YtkoidjaaojmcnaaGreat
namespace Go.Proofs.YtkoidjaaojmcnaaGreat
open Go.RowKit
open Go.Deep
set_option linter.unusedVariables false
set_option linter.unusedSimpArgs false
/-- What stays while message reads: its parts, its answer's place. -/
structure Ma (w A : World) (b : Nat) (t : ByteArray) (g5 : Nat) : Prop where
  px : ∀ W, Rfk (Kbg b g5) A W → W.heap[w.heap.size]? = some (.cells #[.pointer (some ⟨b, 0, none⟩), .string t] 85 (0, 0))
  ga : ∀ W, Rfk (Kbg b g5) A W → W.heap[w.heap.size + 1]? = some (.cells (zM.cells nil8).toArray 38 (0, 0))
  fr : ∀ W, Rfk (Kbg b g5) A W → Rfr b w W
  lb : b < w.heap.size
def Kms (w : World) (b g5 : Nat) : Nat → Prop := fun j => j < w.heap.size ∨ j = g5 ∨ j = w.heap.size + 1
theorem Rfk.mono {K K' : Nat → Prop} {w w' : World} (h : Rfk K w w') (hK : ∀ j, K j → K' j) : Rfk K' w w' := ⟨h.os, h.tape, h.output, h.size, fun k hk hn => h.block k hk (fun e => hn (hK k e))⟩
theorem Ma.start {w W1 : World} {b : Nat} {t : ByteArray} {R : List UInt8} (k : Int) (h : Gr w b t R) (be : Below ((w.alloc (.cells #[.pointer (some ⟨b, 0, none⟩), .string t] 85)).alloc (.cells (zM.cells nil8).toArray 38)).heap.size ((w.alloc (.cells #[.pointer (some ⟨b, 0, none⟩), .string t] 85)).alloc (.cells (zM.cells nil8).toArray 38)) W1) :
    Ma w (W1.alloc (.cells ((bareM k 0).cells nil8).toArray 38)) b t W1.heap.size ∧ Mx (Kms w b W1.heap.size) (W1.alloc (.cells ((bareM k 0).cells nil8).toArray 38)) (W1.alloc (.cells ((bareM k 0).cells nil8).toArray 38)) b t R W1.heap.size (bareM k 0) nil8 := by
  have e1 := heap_alloc_last w (.cells #[.pointer (some ⟨b, 0, none⟩), .string t] 85)
  have r2 := (Below.heap_alloc _ (.cells (zM.cells nil8).toArray 38) _ (lt_heap e1)).trans e1
  have r4 := heap_alloc_last (w.alloc (.cells #[.pointer (some ⟨b, 0, none⟩), .string t] 85)) (.cells (zM.cells nil8).toArray 38)
  have hsz : (w.alloc (.cells #[.pointer (some ⟨b, 0, none⟩), .string t] 85)).heap.size = w.heap.size + 1 := by simp
  rw [hsz] at r4
  have b1 : Below w.heap.size w ((w.alloc (.cells #[.pointer (some ⟨b, 0, none⟩), .string t] 85)).alloc (.cells (zM.cells nil8).toArray 38)) := ((Below.refl _ _).alloc (Nat.le_refl _) _).alloc (by simp) _
  generalize (w.alloc (.cells #[.pointer (some ⟨b, 0, none⟩), .string t] 85)).alloc (.cells (zM.cells nil8).toArray 38) = W0 at *
  have b2 : Below W0.heap.size W0 (W1.alloc (.cells ((bareM k 0).cells nil8).toArray 38)) := below_next be ((Below.refl _ _).alloc (Nat.le_refl _) _)
  have b3 := below_next b1 b2
  have hl := h.lt
  have l4 := lt_heap r4
  have l5 := be.size
  have q2 := (b2.block _ (lt_heap r2)).trans r2
  have q4 := (b2.block _ (lt_heap r4)).trans r4
  have q5 := heap_alloc_last W1 (.cells ((bareM k 0).cells nil8).toArray 38)
  have ls : W1.heap.size < (W1.alloc (.cells ((bareM k 0).cells nil8).toArray 38)).heap.size := lt_heap q5
  refine ⟨⟨fun W f => (f.block _ (lt_heap q2) (fun e => by rcases e with e | e <;> omega)).trans q2, fun W f => (f.block _ (lt_heap q4) (fun e => by rcases e with e | e <;> omega)).trans q4, fun W f => ⟨f.os.trans b3.os, f.tape.trans b3.tape, f.output.trans b3.output, Nat.le_trans b3.size f.size, fun i hi hn => (f.block i (Nat.lt_of_lt_of_le hi b3.size) (fun e => by rcases e with e | e <;> omega)).trans (b3.block i hi)⟩, hl⟩, ⟨Rfk.refl _ _, h.below b3, q5, by omega, .inl hl, .inr (.inl rfl), fun j e => by rcases e with e | e | e <;> omega, fun W _ => bare_ML k 0 W⟩⟩
theorem Ma.fin {w A W : World} {b : Nat} {t : ByteArray} {g5 : Nat} {m : Mg} {v : Vs} (h : Ma w A b t g5) (j : Mx (Kms w b g5) A W b t [] g5 m v) : Gr (W.setRow (w.heap.size + 1) (m.cells v).toArray) b t [] ∧ (∀ W', Rfk (fun j => j < w.heap.size) (W.setRow (w.heap.size + 1) (m.cells v).toArray) W' → ML W' v m) ∧ Rfr b w (W.setRow (w.heap.size + 1) (m.cells v).toArray) ∧ (W.setRow (w.heap.size + 1) (m.cells v).toArray).heap[w.heap.size + 1]? = some (.cells (m.cells v).toArray 38 (0, 0)) := by
  have hl := h.lb
  refine ⟨j.rd.setRow _ (by omega) _, fun W' f => j.ls _ ((show Rfk (Kms w b g5) W (W.setRow (w.heap.size + 1) (m.cells v).toArray) from ⟨rfl, rfl, rfl, by simp, fun k hk hn => setRow_other _ _ _ _ (fun e => hn (.inr (.inr e)))⟩).trans (f.mono fun j e => .inl e)), (h.fr W j.fr).setRow _ (by omega) _, setRow_heap _ _ _ _ _ _ (h.ga W j.fr)⟩
theorem Mx.to {K : Nat → Prop} {A W : World} {b g5 : Nat} {t : ByteArray} {R : List UInt8} {m m' : Mg} {v : Vs} (h : Mx K A W b t R g5 m v) (e : m = m') : Mx K A W b t R g5 m' v := e ▸ h
theorem Gr.left {w : World} {b : Nat} {t : ByteArray} {R : List UInt8} (h : Gr w b t R) (hs : t.size ≤ maxLen) : Calls Tryz.prog 88 #[.pointer (some ⟨b, 0, none⟩)] w fun e w' => e = .returned (.int .i64 (R.length : Int)) ∧ Gr w' b t R ∧ Rfr b w w' := by
  obtain ⟨n, h1, h2, h3⟩ := h
  have hl : t.data.toList.length = t.size := by simp
  have hR : R.length = t.size - n := by rw [← h2, List.length_drop, hl]
  refine (rLeft _ _ _ (n : Int) 0 h3 hs (by omega) (by omega)).mono ?_
  rintro e w' ⟨rfl, k, rfl⟩
  refine ⟨by rw [show (t.size : Int) - (n : Int) = (R.length : Int) by omega], ⟨n, h1, h2, h3.drewN k⟩, Rfr.drewN b w k⟩
section
set_option maxRecDepth 10000
set_option maxHeartbeats 2000000
theorem msg_5 (m : Mg) (hk : m.kind = 5) (he : m = m.namedK) {w : World} {b : Nat} {t : ByteArray} (h : Gr w b t m.pay) (hs : t.size ≤ maxLen) : Calls Tryz.prog 32 #[.agg #[.pointer (some ⟨b, 0, none⟩), .string t], .int .i64 5] w fun e w' => ∃ v', e = .returned (.agg (m.cells v').toArray) ∧ Gr w' b t [] ∧ (∀ W', Rfk (fun j => j < w.heap.size) w' W' → ML W' v' m) ∧ Rfr b w w' := by
  have EM := hide (show ({ zM with kind := 5, nonce := m.nonce } : Mg) = m from (he.trans (show m.namedK = { zM with kind := 5, nonce := m.nonce } by unfold Mg.namedK; simp [hk])).symm)
  have ep : m.pay = lowL m.nonce.toNat 8 := by unfold Mg.pay; simp [hk]
  rw [ep, ← List.append_nil (lowL m.nonce.toNat 8)] at h
  try simp only [List.append_assoc] at h
  have H1 : Hid (∀ W, Gr W b t (lowL m.nonce.toNat 8 ++ []) → Calls Tryz.prog 77 #[.pointer (some ⟨b, 0, none⟩)] W fun e w' => e = .returned (.int .u64 (m.nonce.toNat : Int)) ∧ Gr w' b t [] ∧ Rfr b W w') := fun W g => g.u64 m.nonce.toNat m.nonce.toNat_lt hs
  have HB := hide (fun W => bare_any 5 W)
  have HO := hide ((bareM 5 0).one nil8 nil8_ok)
  have HZ := hide ((bareM 5 0).size nil8)
  have HZm := hide (zM.size nil8)
  have hsz : (w.alloc (.cells #[.pointer (some ⟨b, 0, none⟩), .string t] 85)).heap.size = w.heap.size + 1 := by simp
  have ST : Hid (∀ W1, Below ((w.alloc (.cells #[.pointer (some ⟨b, 0, none⟩), .string t] 85)).alloc (.cells (zM.cells nil8).toArray 38)).heap.size ((w.alloc (.cells #[.pointer (some ⟨b, 0, none⟩), .string t] 85)).alloc (.cells (zM.cells nil8).toArray 38)) W1 → _) := fun W1 be => Ma.start 5 h be
  clear h hs he hk ep
  go_enter Tryz.func32, Tryz.ntmps32
  go_upto_region 1 with (with_reducible refine at_list ?_; first | refine wpList_boxA rfl _ rfl #[.pointer (some ⟨b, 0, none⟩), .string t] rfl ?_ | refine wpList_allocA AM rfl rfl ?_)
  rw [hsz]
  clear hsz
  generalize (w.alloc (.cells #[.pointer (some ⟨b, 0, none⟩), .string t] 85)).alloc (.cells (zM.cells nil8).toArray 38) = W0 at *
  go_upto_region 2 with (first | (go_at_call 17; refine (HB.out _).mono ?_; rintro e W1 ⟨rfl, be⟩; have B1 := hide be; clear be) | (with_reducible refine at_list ?_; first | refine wpList_allocA AM rfl rfl ?_ | refine wpList_store_newA AM rfl _ _ rfl _ rfl ((bareM 5 0).cells nil8).toArray HZ.out HO.out rfl rfl ?_))
  have MA := hide (ST.out W1 B1.out).1
  have J0 := hide (ST.out W1 B1.out).2
  clear ST B1 HB HO HZ
  generalize W1.heap.size = g5 at *
  generalize W1.alloc (.cells ((bareM 5 0).cells nil8).toArray 38) = A at *
  have P1 := hide (MA.out.px _ J0.out.fr)
  have c0 : _ = some (Value.pointer (some ⟨b, 0, none⟩)) := (cell_of_row _ _ 0 _ _ _ P1.out).trans rfl
  go_upto_region 35 with (go_at_call 77; refine (H1.out _ J0.out.rd).mono ?_; rintro e W1 ⟨rfl, g1, f1⟩; have K1 := hide (J0.out.read g1 f1); have f3 := K1.out.frozen 3; have c3 := K1.out.cell 3 (by decide); clear g1 f1)
  have J1 := hide (K1.out.nonce m.nonce)
  clear J0 K1 H1 c0 P1 c3 f3
  generalize W1.setCell ⟨g5, 3, none⟩ (.int .u64 (m.nonce.toNat : Int)) = V1 at *
  have JE := hide (J1.out.to (m' := m) EM.out)
  have R5 := hide JE.out.row
  have R4 := hide (MA.out.ga _ JE.out.fr)
  have FF := hide (MA.out.fin JE.out)
  have HOv := hide (m.one _ (JE.out.ls _ (Rfk.refl _ _)).ok)
  have HZv := hide (m.size nil8)
  clear J1 JE MA EM
  have A0 := AM
  generalize hD : (m.cells nil8).toArray = D at *
  generalize (zM.cells nil8).toArray = Z at *
  go_wp2_with ((with_reducible refine at_list ?_); first | refine wpList_loadS A0 _ rfl g5 rfl D HZv.out 38 R5.out rfl ?_ | refine wpList_storeA A0 rfl _ _ rfl (w.heap.size + 1) D HZv.out HOv.out rfl rfl Z HZm.out 38 R4.out ?_)
  refine bodyPost_ret (resA A0 rfl _ _ _ _ D HZv.out rfl FF.out.2.2.2) rfl ?_
  exact ⟨_, by rw [hD], FF.out.1, FF.out.2.1, FF.out.2.2.1⟩
end
end Go.Proofs.YtkoidjaaojmcnaaGreat
