/- Messages as bytes: put. -/
import Derived.Test.YtkoidjaaojmcnaaGreatM13
namespace Go.Proofs.YtkoidjaaojmcnaaGreat
open Go.RowKit
open Go.Deep
/-- A time as it is told. -/
def tm64 (t : Int) : Nat := (t % 18446744073709551616).toNat
theorem tm64_lt (t : Int) : tm64 t < 18446744073709551616 := by unfold tm64; omega
theorem tm64_wrap (t : Int) : IntKind.u64.wrap t = (tm64 t : Int) := by
  unfold tm64
  rw [IntKind.wrap_u64, Int.toNat_of_nonneg (Int.emod_nonneg _ (by decide))]
def flagL (b : Bool) : List UInt8 := lowL (if b then 1 else 0) 1
def Mg.payV (m : Mg) : List UInt8 := lowL m.vers.toNat 4 ++ (lowL m.serv.toNat 8 ++ (lowL (tm64 m.time) 8 ++ (m.dst.bytes ++ (m.src.bytes ++ (lowL m.nonce.toNat 8 ++ (rawL m.agent ++ (lowL m.height.toNat 4 ++ flagL m.relay)))))))
def Mg.payC (m : Mg) : List UInt8 := m.head.data.toList ++ (lowL m.nonce.toNat 8 ++ (countL m.shorts.length ++ m.shorts.flatMap (fun x : UInt64 => lowL x.toNat 6) ++ (countL m.filled.length ++ fillL (-1) m.filled)))
section
set_option maxRecDepth 10000
set_option maxHeartbeats 4000000
theorem putVersion_any (m : Mg) (s : Vs) (hag : m.agent.size ≤ 64) {B w : World} {b : Nat} {l : List UInt8} (h : Wb B w b l) (hl : l.length ≤ 1000000000) : Calls Tryz.prog 44 #[pb b, .agg (m.cells s).toArray] w fun e w' => e = .returned (.tuple #[]) ∧ Wb B w' b (l ++ m.payV) := by
  have bA : Below w.heap.size w (w.alloc (.cells (m.cells s).toArray 38)) := (Below.refl _ _).alloc (Nat.le_refl _) _
  have rA := heap_alloc_last w (.cells (m.cells s).toArray 38)
  have J0 := hide (Wx.start (h.next bA))
  have KP : Hid (∀ W l', Wx B (w.alloc (.cells (m.cells s).toArray 38)) W b l' → Mc W w.heap.size m s) := fun W l' j => Mc.of ((j.kept h bA (Nat.le_refl _) (by simp)).trans rA)
  have e4 := tm64_wrap m.time
  have H0 : Hid (∀ W l', l'.length ≤ 1000100000 → Wst W (pb b) l' → Calls Tryz.prog 48 #[pb b, .int .u32 (m.vers.toNat : Int)] W fun e w' => e = .returned (.tuple #[]) ∧ Wst w' (pb b) (l' ++ lowL m.vers.toNat 4) ∧ Wfr W w' (pb b)) := fun W l' h1 h2 => wU32 _ _ _ m.vers.toNat_lt _ (by omega) h2
  have H1 : Hid (∀ W l', l'.length ≤ 1000100000 → Wst W (pb b) l' → Calls Tryz.prog 45 #[pb b, .int .u64 (m.serv.toNat : Int)] W fun e w' => e = .returned (.tuple #[]) ∧ Wst w' (pb b) (l' ++ lowL m.serv.toNat 8) ∧ Wfr W w' (pb b)) := fun W l' h1 h2 => wU64 _ _ _ m.serv.toNat_lt _ (by omega) h2
  have H2 : Hid (∀ W l', l'.length ≤ 1000100000 → Wst W (pb b) l' → Calls Tryz.prog 45 #[pb b, .int .u64 (tm64 m.time : Int)] W fun e w' => e = .returned (.tuple #[]) ∧ Wst w' (pb b) (l' ++ lowL (tm64 m.time) 8) ∧ Wfr W w' (pb b)) := fun W l' h1 h2 => wU64 _ _ _ (tm64_lt _) _ (by omega) h2
  have H3 : Hid (∀ W l', l'.length ≤ 1000100000 → Wb B W b l' → Calls Tryz.prog 49 #[pb b, .agg m.dst.cells.toArray] W fun e w' => e = .returned (.tuple #[]) ∧ Wb B w' b (l' ++ m.dst.bytes) ∧ Wfr W w' (pb b)) := fun W l' h1 h2 => putNet_any m.dst h2 (by omega)
  have H4 : Hid (∀ W l', l'.length ≤ 1000100000 → Wb B W b l' → Calls Tryz.prog 49 #[pb b, .agg m.src.cells.toArray] W fun e w' => e = .returned (.tuple #[]) ∧ Wb B w' b (l' ++ m.src.bytes) ∧ Wfr W w' (pb b)) := fun W l' h1 h2 => putNet_any m.src h2 (by omega)
  have H5 : Hid (∀ W l', l'.length ≤ 1000100000 → Wst W (pb b) l' → Calls Tryz.prog 45 #[pb b, .int .u64 (m.nonce.toNat : Int)] W fun e w' => e = .returned (.tuple #[]) ∧ Wst w' (pb b) (l' ++ lowL m.nonce.toNat 8) ∧ Wfr W w' (pb b)) := fun W l' h1 h2 => wU64 _ _ _ m.nonce.toNat_lt _ (by omega) h2
  have H6 : Hid (∀ W l', l'.length ≤ 1000100000 → Wst W (pb b) l' → Calls Tryz.prog 63 #[pb b, .string m.agent] W fun e w' => e = .returned (.tuple #[]) ∧ Wst w' (pb b) (l' ++ rawL m.agent) ∧ Wfr W w' (pb b)) := fun W l' h1 h2 => by have := wString (pb b) l' m.agent (by omega) (.inr (by omega)) W (by omega) h2; rwa [List.append_assoc] at this
  have H7 : Hid (∀ W l', l'.length ≤ 1000100000 → Wst W (pb b) l' → Calls Tryz.prog 48 #[pb b, .int .u32 (m.height.toNat : Int)] W fun e w' => e = .returned (.tuple #[]) ∧ Wst w' (pb b) (l' ++ lowL m.height.toNat 4) ∧ Wfr W w' (pb b)) := fun W l' h1 h2 => wU32 _ _ _ m.height.toNat_lt _ (by omega) h2
  have H8 : Hid (∀ W l', l'.length ≤ 1000100000 → Wst W (pb b) l' → Calls Tryz.prog 58 #[pb b, .bool m.relay] W fun e w' => e = .returned (.tuple #[]) ∧ Wst w' (pb b) (l' ++ flagL m.relay) ∧ Wfr W w' (pb b)) := fun W l' h1 h2 => wBool _ _ m.relay _ (by omega) h2
  have LB : Hid (l.length ≤ 1000000000 ∧ (lowL m.vers.toNat 4).length ≤ 4 ∧ (lowL m.serv.toNat 8).length ≤ 8 ∧ (lowL (tm64 m.time) 8).length ≤ 8 ∧ (m.dst.bytes).length ≤ 26 ∧ (m.src.bytes).length ≤ 26 ∧ (lowL m.nonce.toNat 8).length ≤ 8 ∧ (rawL m.agent).length ≤ 4105 ∧ (lowL m.height.toNat 4).length ≤ 4) := ⟨hl, Nat.le_of_eq (lowL_len m.vers.toNat 4), Nat.le_of_eq (lowL_len m.serv.toNat 8), Nat.le_of_eq (lowL_len (tm64 m.time) 8), Nat.le_of_eq (m.dst.bytes_len), Nat.le_of_eq (m.src.bytes_len), Nat.le_of_eq (lowL_len m.nonce.toNat 8), rawL_len m.agent (by omega), Nat.le_of_eq (lowL_len m.height.toNat 4)⟩
  have PV : Hid (l ++ m.payV = l ++ m.payV) := rfl
  clear h hl bA rA hag
  go_enter Tryz.func44, Tryz.ntmps44
  go_upto_region 1 with (with_reducible refine at_list ?_; refine wpList_boxA rfl _ rfl (m.cells s).toArray rfl ?_)
  have c0 := (KP.out _ _ J0.out).f1
  go_upto_region 2 with (go_at_call 48; with_reducible refine (H0.out _ _ (by have := LB.out; omega) J0.out.wb.st).mono ?_; rintro e W1 ⟨rfl, s1, f1⟩; have J1 := hide (J0.out.stepN s1 f1); clear s1 f1)
  clear c0
  have c1 := (KP.out _ _ J1.out).f2
  go_upto_region 3 with (go_at_call 45; with_reducible refine (H1.out _ _ (by have := LB.out; simp only [List.length_append]; omega) J1.out.wb.st).mono ?_; rintro e W2 ⟨rfl, s1, f1⟩; have J2 := hide (J1.out.stepN s1 f1); clear s1 f1)
  clear c1
  have c2 := (KP.out _ _ J2.out).f4
  go_upto_region 4 with (go_at_call 45; with_reducible refine (H2.out _ _ (by have := LB.out; simp only [List.length_append]; omega) J2.out.wb.st).mono ?_; rintro e W3 ⟨rfl, s1, f1⟩; have J3 := hide (J2.out.stepN s1 f1); clear s1 f1)
  clear c2
  have c3 := (KP.out _ _ J3.out).dst
  go_upto_region 5 with (first | (go_at_call 49; with_reducible refine (H3.out _ _ (by have := LB.out; simp only [List.length_append]; omega) J3.out.wb).mono ?_; rintro e W4 ⟨rfl, s1, f1⟩; have J4 := hide (J3.out.step s1 f1); clear s1 f1) | (with_reducible refine at_list ?_; refine wpLoadN _ rfl w.heap.size 5 rfl m.dst c3 rfl ?_))
  clear c3
  have c4 := (KP.out _ _ J4.out).src
  go_upto_region 6 with (first | (go_at_call 49; with_reducible refine (H4.out _ _ (by have := LB.out; simp only [List.length_append]; omega) J4.out.wb).mono ?_; rintro e W5 ⟨rfl, s1, f1⟩; have J5 := hide (J4.out.step s1 f1); clear s1 f1) | (with_reducible refine at_list ?_; refine wpLoadN _ rfl w.heap.size 24 rfl m.src c4 rfl ?_))
  clear c4
  have c5 := (KP.out _ _ J5.out).f3
  go_upto_region 7 with (go_at_call 45; with_reducible refine (H5.out _ _ (by have := LB.out; simp only [List.length_append]; omega) J5.out.wb.st).mono ?_; rintro e W6 ⟨rfl, s1, f1⟩; have J6 := hide (J5.out.stepN s1 f1); clear s1 f1)
  clear c5
  have c6 := (KP.out _ _ J6.out).f7
  go_upto_region 8 with (go_at_call 63; with_reducible refine (H6.out _ _ (by have := LB.out; simp only [List.length_append]; omega) J6.out.wb.st).mono ?_; rintro e W7 ⟨rfl, s1, f1⟩; have J7 := hide (J6.out.stepN s1 f1); clear s1 f1)
  clear c6
  have c7 := (KP.out _ _ J7.out).f8
  go_upto_region 9 with (go_at_call 48; with_reducible refine (H7.out _ _ (by have := LB.out; simp only [List.length_append]; omega) J7.out.wb.st).mono ?_; rintro e W8 ⟨rfl, s1, f1⟩; have J8 := hide (J7.out.stepN s1 f1); clear s1 f1)
  clear c7
  have c8 := (KP.out _ _ J8.out).f9
  go_wp2_with (go_at_call 58; with_reducible refine (H8.out _ _ (by have := LB.out; simp only [List.length_append]; omega) J8.out.wb.st).mono ?_; rintro e W9 ⟨rfl, s1, f1⟩; have J9 := hide (J8.out.stepN s1 f1); clear s1 f1)
  clear c8
  go_end0
  refine ⟨rfl, ?_⟩
  have := J9.out.wb
  simpa only [Mg.payV, List.append_assoc] using this
theorem hmf (fn : Fn) (first cap : Array Value) (w : World) : (Instr.makeFunc fn first cap).run Tryz.prog w = .ok (.func fn first cap) w := rfl
theorem Wb.row_new {B w A : World} {b : Nat} {l : List UInt8} (h : Wb B w b l) (k : Below w.heap.size w A) : ∀ g, w.heap.size ≤ g → rowOf A (pb b) ≠ some g := fun g hg e => by
  have hb := h.st.lt
  have e2 : rowOf A (pb b) = rowOf w (pb b) := by
    have : A.cell? ⟨b, 0, none⟩ = w.cell? ⟨b, 0, none⟩ := k.cell (p := ⟨b, 0, none⟩) hb
    simp [rowOf, this]
  rw [e2] at e
  have := h.st.row_lt e
  omega
theorem Wg.of_box {B w A : World} {b : Nat} {l : List UInt8} (h : Wb B w b l) (k : Below w.heap.size w A) (hc : A.heap[w.heap.size]? = some (.cells #[pb b] 63 (0, 0))) : Wg B A b w.heap.size l := ⟨h.next k, hc, by have := h.st.lt; omega, h.row_new k _ (Nat.le_refl _)⟩
theorem Wh.of_new {B W : World} {b g : Nat} {l : List UInt8} (h : Wg B W b g l) : Wh B (W.alloc (.cells #[.int .i64 (-1)] 3)) b g W.heap.size l (-1) := by
  have k : Below W.heap.size W (W.alloc (.cells #[.int .i64 (-1)] 3)) := (Below.refl _ _).alloc (Nat.le_refl _) _
  exact ⟨h.next k, heap_alloc_last W _, by have := h.wb.st.lt; omega, h.wb.row_new k _ (Nat.le_refl _), by have := lt_heap h.cell; omega, h.wb.bel.size⟩
/-- Two boxes: the writer's pointer, the message. -/
structure Wm (B w A : World) (b : Nat) (l : List UInt8) (m : Mg) (s : Vs) : Prop where
  wb : Wb B w b l
  bel : Below w.heap.size w A
  r2 : A.heap[w.heap.size]? = some (.cells #[pb b] 63 (0, 0))
  r3 : A.heap[w.heap.size + 1]? = some (.cells (m.cells s).toArray 38 (0, 0))
theorem Wm.mk2 {B w : World} {b : Nat} {l : List UInt8} (h : Wb B w b l) (m : Mg) (s : Vs) : Wm B w ((w.alloc (.cells #[pb b] 63)).alloc (.cells (m.cells s).toArray 38)) b l m s := by
  have e1 := heap_alloc_last w (.cells #[pb b] 63)
  have e2 := heap_alloc_last (w.alloc (.cells #[pb b] 63)) (.cells (m.cells s).toArray 38)
  rw [show (w.alloc (.cells #[pb b] 63)).heap.size = w.heap.size + 1 by simp] at e2
  exact ⟨h, ((Below.refl _ _).alloc (Nat.le_refl _) _).alloc (by simp) _, (Below.heap_alloc _ _ _ (lt_heap e1)).trans e1, e2⟩
section
variable {B w A W : World} {b : Nat} {l l' : List UInt8} {m : Mg} {s : Vs}
theorem Wm.x (h : Wm B w A b l m s) : Wx B A A b l := Wx.start (h.wb.next h.bel)
theorem Wm.g (h : Wm B w A b l m s) : Wg B A b w.heap.size l := Wg.of_box h.wb h.bel h.r2
theorem Wm.gx (h : Wm B w A b l m s) (j : Wx B A W b l') : Wg B W b w.heap.size l' := h.g.at j
theorem Wm.row (h : Wm B w A b l m s) (j : Wx B A W b l') : W.heap[w.heap.size + 1]? = some (.cells (m.cells s).toArray 38 (0, 0)) := (j.kept h.wb h.bel (by omega) (lt_heap h.r3)).trans h.r3
theorem Wm.mc (h : Wm B w A b l m s) (j : Wx B A W b l') : Mc W (w.heap.size + 1) m s := Mc.of (h.row j)
end
theorem wBytes0 (b : Nat) (s : ByteArray) (hs : s.size ≤ 140737488351232) (w : World) (h : Wst w (pb b) []) : Calls Tryz.prog 56 #[pb b, .string s] w fun e w' => e = .returned (.tuple #[]) ∧ Wst w' (pb b) s.data.toList ∧ Wfr w w' (pb b) := by
  rcases h with h | ⟨b, v, hp, hc, hf, ho, hne⟩
  · cases h
  · cases hp
    have HS := hide (show ([] : List UInt8).length + s.size ≤ 140737488355328 by simp; omega)
    clear hs
    go_enter Tryz.func56, Tryz.ntmps56
    go_wp2_with (at_builtin; refine wpList_app_str rfl _ _ rfl v [] rfl ho s rfl HS.out ?_; intro v' w1 ho1 hon; obtain ⟨ao, nn, c, rfl, _⟩ := ho1.form; obtain ⟨c1, f1, hw1, hw2⟩ := Wst.stored hc hf hne ho1 hon)
    go_end0
    exact ⟨rfl, hw1, hw2⟩
theorem put_n5 (m : Mg) (s : Vs) (hk : m.kind = 5) {B w : World} {b : Nat} (h : Wb B w b []) : Calls Tryz.prog 19 #[pb b, .agg (m.cells s).toArray] w fun e w' => e = .returned (.tuple #[]) ∧ Wb B w' b (lowL m.nonce.toNat 8) := by
  have M0 := hide (Wm.mk2 h m s)
  have J0 := hide M0.out.x
  have hm := hmf
  have KU64106 : Hid (∀ W l', l'.length ≤ 1000100000 → Wst W (pb b) l' → Calls Tryz.prog 45 #[pb b, .int .u64 (m.nonce.toNat : Int)] W fun e w' => e = .returned (.tuple #[]) ∧ Wst w' (pb b) (l' ++ lowL m.nonce.toNat 8) ∧ Wfr W w' (pb b)) := fun W l' h1 h2 => wU64 _ _ _ m.nonce.toNat_lt _ (by omega) h2
  have ck := (M0.out.mc J0.out).f0
  rw [hk] at ck
  have eW : (w.alloc (.cells #[pb b] 63)).heap.size = w.heap.size + 1 := by simp
  clear h hk
  go_enter Tryz.func19, Tryz.ntmps19
  go_upto_region 1 with (with_reducible refine at_list ?_; refine wpList_boxA rfl _ rfl (m.cells s).toArray rfl ?_; rw [eW])
  generalize (w.alloc (.cells #[pb b] 63)).alloc (.cells (m.cells s).toArray 38) = A at *
  clear eW
  have cw0 := (M0.out.gx J0.out).c
  have c3 := (M0.out.mc J0.out).f3
  go_wp2_with (go_at_call 45; with_reducible refine (KU64106.out _ _ (by simp) J0.out.wb.st).mono ?_; rintro e W1 ⟨rfl, s1, f1⟩; have J1 := hide (J0.out.stepN s1 f1); clear s1 f1)
  clear cw0 c3 ck
  go_end0
  refine ⟨rfl, ?_⟩
  have := J1.out.wb
  simpa only [List.append_assoc, List.nil_append] using this
theorem put_n6 (m : Mg) (s : Vs) (hk : m.kind = 6) {B w : World} {b : Nat} (h : Wb B w b []) : Calls Tryz.prog 19 #[pb b, .agg (m.cells s).toArray] w fun e w' => e = .returned (.tuple #[]) ∧ Wb B w' b (lowL m.nonce.toNat 8) := by
  have M0 := hide (Wm.mk2 h m s)
  have J0 := hide M0.out.x
  have hm := hmf
  have KU64106 : Hid (∀ W l', l'.length ≤ 1000100000 → Wst W (pb b) l' → Calls Tryz.prog 45 #[pb b, .int .u64 (m.nonce.toNat : Int)] W fun e w' => e = .returned (.tuple #[]) ∧ Wst w' (pb b) (l' ++ lowL m.nonce.toNat 8) ∧ Wfr W w' (pb b)) := fun W l' h1 h2 => wU64 _ _ _ m.nonce.toNat_lt _ (by omega) h2
  have ck := (M0.out.mc J0.out).f0
  rw [hk] at ck
  have eW : (w.alloc (.cells #[pb b] 63)).heap.size = w.heap.size + 1 := by simp
  clear h hk
  go_enter Tryz.func19, Tryz.ntmps19
  go_upto_region 1 with (with_reducible refine at_list ?_; refine wpList_boxA rfl _ rfl (m.cells s).toArray rfl ?_; rw [eW])
  generalize (w.alloc (.cells #[pb b] 63)).alloc (.cells (m.cells s).toArray 38) = A at *
  clear eW
  have cw0 := (M0.out.gx J0.out).c
  have c3 := (M0.out.mc J0.out).f3
  go_wp2_with (go_at_call 45; with_reducible refine (KU64106.out _ _ (by simp) J0.out.wb.st).mono ?_; rintro e W1 ⟨rfl, s1, f1⟩; have J1 := hide (J0.out.stepN s1 f1); clear s1 f1)
  clear cw0 c3 ck
  go_end0
  refine ⟨rfl, ?_⟩
  have := J1.out.wb
  simpa only [List.append_assoc, List.nil_append] using this
theorem put_n15 (m : Mg) (s : Vs) (hk : m.kind = 15) {B w : World} {b : Nat} (h : Wb B w b []) : Calls Tryz.prog 19 #[pb b, .agg (m.cells s).toArray] w fun e w' => e = .returned (.tuple #[]) ∧ Wb B w' b (flagL m.high ++ lowL m.nonce.toNat 8) := by
  have M0 := hide (Wm.mk2 h m s)
  have J0 := hide M0.out.x
  have hm := hmf
  have KBool783 : Hid (∀ W l', l'.length ≤ 1000100000 → Wst W (pb b) l' → Calls Tryz.prog 58 #[pb b, .bool m.high] W fun e w' => e = .returned (.tuple #[]) ∧ Wst w' (pb b) (l' ++ flagL m.high) ∧ Wfr W w' (pb b)) := fun W l' h1 h2 => wBool _ _ m.high _ (by omega) h2
  have KU64106 : Hid (∀ W l', l'.length ≤ 1000100000 → Wst W (pb b) l' → Calls Tryz.prog 45 #[pb b, .int .u64 (m.nonce.toNat : Int)] W fun e w' => e = .returned (.tuple #[]) ∧ Wst w' (pb b) (l' ++ lowL m.nonce.toNat 8) ∧ Wfr W w' (pb b)) := fun W l' h1 h2 => wU64 _ _ _ m.nonce.toNat_lt _ (by omega) h2
  have ck := (M0.out.mc J0.out).f0
  rw [hk] at ck
  have eW : (w.alloc (.cells #[pb b] 63)).heap.size = w.heap.size + 1 := by simp
  clear h hk
  go_enter Tryz.func19, Tryz.ntmps19
  go_upto_region 1 with (with_reducible refine at_list ?_; refine wpList_boxA rfl _ rfl (m.cells s).toArray rfl ?_; rw [eW])
  generalize (w.alloc (.cells #[pb b] 63)).alloc (.cells (m.cells s).toArray 38) = A at *
  clear eW
  have cw0 := (M0.out.gx J0.out).c
  have c10 := (M0.out.mc J0.out).f10
  go_upto_region 24 with (go_at_call 58; with_reducible refine (KBool783.out _ _ (by simp) J0.out.wb.st).mono ?_; rintro e W1 ⟨rfl, s1, f1⟩; have J1 := hide (J0.out.stepN s1 f1); clear s1 f1)
  clear cw0 c10 ck
  have cw1 := (M0.out.gx J1.out).c
  have c3 := (M0.out.mc J1.out).f3
  go_wp2_with (go_at_call 45; with_reducible refine (KU64106.out _ _ (by rw [List.nil_append]; have := lowL_len (if m.high then 1 else 0) 1; unfold flagL; omega) J1.out.wb.st).mono ?_; rintro e W2 ⟨rfl, s1, f1⟩; have J2 := hide (J1.out.stepN s1 f1); clear s1 f1)
  clear cw1 c3
  go_end0
  refine ⟨rfl, ?_⟩
  have := J2.out.wb
  simpa only [List.append_assoc, List.nil_append] using this
theorem put_n7 (m : Mg) (s : Vs) (hk : m.kind = 7) {B w : World} {b : Nat} (h : Wb B w b []) (hML : ML B s m) (hn : m.addrs.length ≤ 100) : Calls Tryz.prog 19 #[pb b, .agg (m.cells s).toArray] w fun e w' => e = .returned (.tuple #[]) ∧ Wb B w' b (countL m.addrs.length ++ m.addrs.flatMap Nt.full) := by
  have M0 := hide (Wm.mk2 h m s)
  have J0 := hide M0.out.x
  have hm := hmf
  obtain ⟨aonet, canet, eanet⟩ := hML.a.form
  have LXnet := hide (eanet ▸ hML.a)
  have EAnet := hide eanet
  clear eanet
  have ck := (M0.out.mc J0.out).f0
  rw [hk] at ck
  have eW : (w.alloc (.cells #[pb b] 63)).heap.size = w.heap.size + 1 := by simp
  clear h hk hML
  go_enter Tryz.func19, Tryz.ntmps19
  go_upto_region 1 with (with_reducible refine at_list ?_; refine wpList_boxA rfl _ rfl (m.cells s).toArray rfl ?_; rw [eW])
  generalize (w.alloc (.cells #[pb b] 63)).alloc (.cells (m.cells s).toArray 38) = A at *
  clear eW
  have cw0 := (M0.out.gx J0.out).c
  have clnet : A.cell? ⟨w.heap.size + 1, 47, none⟩ = some (.slice aonet m.addrs.length canet) := by have := (M0.out.mc J0.out).f11; rwa [EAnet.out] at this
  go_wp2_with (go_at_call 46; with_reducible refine (putList_net m.addrs (.slice aonet m.addrs.length canet) (M0.out.gx J0.out) LXnet.out (Nat.le_trans hn (by decide)) (by simp)).mono ?_; rintro e W1 ⟨rfl, s1, f1⟩; have J1 := hide (J0.out.step s1 f1); clear s1 f1)
  clear cw0 ck
  go_end0
  refine ⟨rfl, ?_⟩
  have := J1.out.wb
  simpa only [List.append_assoc, List.nil_append] using this
theorem put_n8 (m : Mg) (s : Vs) (hk : m.kind = 8) {B w : World} {b : Nat} (h : Wb B w b []) (hML : ML B s m) (hn : m.items.length ≤ 500) : Calls Tryz.prog 19 #[pb b, .agg (m.cells s).toArray] w fun e w' => e = .returned (.tuple #[]) ∧ Wb B w' b (countL m.items.length ++ m.items.flatMap Im.bytes) := by
  have M0 := hide (Wm.mk2 h m s)
  have J0 := hide M0.out.x
  have hm := hmf
  obtain ⟨aoitem, caitem, eaitem⟩ := hML.i.form
  have LXitem := hide (eaitem ▸ hML.i)
  have EAitem := hide eaitem
  clear eaitem
  have ck := (M0.out.mc J0.out).f0
  rw [hk] at ck
  have eW : (w.alloc (.cells #[pb b] 63)).heap.size = w.heap.size + 1 := by simp
  clear h hk hML
  go_enter Tryz.func19, Tryz.ntmps19
  go_upto_region 1 with (with_reducible refine at_list ?_; refine wpList_boxA rfl _ rfl (m.cells s).toArray rfl ?_; rw [eW])
  generalize (w.alloc (.cells #[pb b] 63)).alloc (.cells (m.cells s).toArray 38) = A at *
  clear eW
  have cw0 := (M0.out.gx J0.out).c
  have clitem : A.cell? ⟨w.heap.size + 1, 48, none⟩ = some (.slice aoitem m.items.length caitem) := by have := (M0.out.mc J0.out).f12; rwa [EAitem.out] at this
  go_wp2_with (go_at_call 50; with_reducible refine (putList_item m.items (.slice aoitem m.items.length caitem) (M0.out.gx J0.out) LXitem.out hn (by simp)).mono ?_; rintro e W1 ⟨rfl, s1, f1⟩; have J1 := hide (J0.out.step s1 f1); clear s1 f1)
  clear cw0 ck
  go_end0
  refine ⟨rfl, ?_⟩
  have := J1.out.wb
  simpa only [List.append_assoc, List.nil_append] using this
theorem put_n9 (m : Mg) (s : Vs) (hk : m.kind = 9) {B w : World} {b : Nat} (h : Wb B w b []) (hML : ML B s m) (hn : m.items.length ≤ 500) : Calls Tryz.prog 19 #[pb b, .agg (m.cells s).toArray] w fun e w' => e = .returned (.tuple #[]) ∧ Wb B w' b (countL m.items.length ++ m.items.flatMap Im.bytes) := by
  have M0 := hide (Wm.mk2 h m s)
  have J0 := hide M0.out.x
  have hm := hmf
  obtain ⟨aoitem, caitem, eaitem⟩ := hML.i.form
  have LXitem := hide (eaitem ▸ hML.i)
  have EAitem := hide eaitem
  clear eaitem
  have ck := (M0.out.mc J0.out).f0
  rw [hk] at ck
  have eW : (w.alloc (.cells #[pb b] 63)).heap.size = w.heap.size + 1 := by simp
  clear h hk hML
  go_enter Tryz.func19, Tryz.ntmps19
  go_upto_region 1 with (with_reducible refine at_list ?_; refine wpList_boxA rfl _ rfl (m.cells s).toArray rfl ?_; rw [eW])
  generalize (w.alloc (.cells #[pb b] 63)).alloc (.cells (m.cells s).toArray 38) = A at *
  clear eW
  have cw0 := (M0.out.gx J0.out).c
  have clitem : A.cell? ⟨w.heap.size + 1, 48, none⟩ = some (.slice aoitem m.items.length caitem) := by have := (M0.out.mc J0.out).f12; rwa [EAitem.out] at this
  go_wp2_with (go_at_call 50; with_reducible refine (putList_item m.items (.slice aoitem m.items.length caitem) (M0.out.gx J0.out) LXitem.out hn (by simp)).mono ?_; rintro e W1 ⟨rfl, s1, f1⟩; have J1 := hide (J0.out.step s1 f1); clear s1 f1)
  clear cw0 ck
  go_end0
  refine ⟨rfl, ?_⟩
  have := J1.out.wb
  simpa only [List.append_assoc, List.nil_append] using this
theorem put_n10 (m : Mg) (s : Vs) (hk : m.kind = 10) {B w : World} {b : Nat} (h : Wb B w b []) (hML : ML B s m) (hn : m.items.length ≤ 500) : Calls Tryz.prog 19 #[pb b, .agg (m.cells s).toArray] w fun e w' => e = .returned (.tuple #[]) ∧ Wb B w' b (countL m.items.length ++ m.items.flatMap Im.bytes) := by
  have M0 := hide (Wm.mk2 h m s)
  have J0 := hide M0.out.x
  have hm := hmf
  obtain ⟨aoitem, caitem, eaitem⟩ := hML.i.form
  have LXitem := hide (eaitem ▸ hML.i)
  have EAitem := hide eaitem
  clear eaitem
  have ck := (M0.out.mc J0.out).f0
  rw [hk] at ck
  have eW : (w.alloc (.cells #[pb b] 63)).heap.size = w.heap.size + 1 := by simp
  clear h hk hML
  go_enter Tryz.func19, Tryz.ntmps19
  go_upto_region 1 with (with_reducible refine at_list ?_; refine wpList_boxA rfl _ rfl (m.cells s).toArray rfl ?_; rw [eW])
  generalize (w.alloc (.cells #[pb b] 63)).alloc (.cells (m.cells s).toArray 38) = A at *
  clear eW
  have cw0 := (M0.out.gx J0.out).c
  have clitem : A.cell? ⟨w.heap.size + 1, 48, none⟩ = some (.slice aoitem m.items.length caitem) := by have := (M0.out.mc J0.out).f12; rwa [EAitem.out] at this
  go_wp2_with (go_at_call 50; with_reducible refine (putList_item m.items (.slice aoitem m.items.length caitem) (M0.out.gx J0.out) LXitem.out hn (by simp)).mono ?_; rintro e W1 ⟨rfl, s1, f1⟩; have J1 := hide (J0.out.step s1 f1); clear s1 f1)
  clear cw0 ck
  go_end0
  refine ⟨rfl, ?_⟩
  have := J1.out.wb
  simpa only [List.append_assoc, List.nil_append] using this
theorem put_n12 (m : Mg) (s : Vs) (hk : m.kind = 12) {B w : World} {b : Nat} (h : Wb B w b []) (hML : ML B s m) (hn : m.heads.length ≤ 100) (hs : ∀ x ∈ m.heads, x.size ≤ 4096) : Calls Tryz.prog 19 #[pb b, .agg (m.cells s).toArray] w fun e w' => e = .returned (.tuple #[]) ∧ Wb B w' b (countL m.heads.length ++ m.heads.flatMap (fun x : ByteArray => x.data.toList ++ [0])) := by
  have M0 := hide (Wm.mk2 h m s)
  have J0 := hide M0.out.x
  have hm := hmf
  obtain ⟨aohead, cahead, eahead⟩ := hML.hd.form
  have LXhead := hide (eahead ▸ hML.hd)
  have EAhead := hide eahead
  clear eahead
  have ck := (M0.out.mc J0.out).f0
  rw [hk] at ck
  have eW : (w.alloc (.cells #[pb b] 63)).heap.size = w.heap.size + 1 := by simp
  clear h hk hML
  go_enter Tryz.func19, Tryz.ntmps19
  go_upto_region 1 with (with_reducible refine at_list ?_; refine wpList_boxA rfl _ rfl (m.cells s).toArray rfl ?_; rw [eW])
  generalize (w.alloc (.cells #[pb b] 63)).alloc (.cells (m.cells s).toArray 38) = A at *
  clear eW
  have cw0 := (M0.out.gx J0.out).c
  have clhead : A.cell? ⟨w.heap.size + 1, 114, none⟩ = some (.slice aohead m.heads.length cahead) := by have := (M0.out.mc J0.out).f16; rwa [EAhead.out] at this
  go_wp2_with (go_at_call 54; with_reducible refine (putList_head m.heads (.slice aohead m.heads.length cahead) (M0.out.gx J0.out) LXhead.out (Nat.le_trans hn (by decide)) (by simp) hs).mono ?_; rintro e W1 ⟨rfl, s1, f1⟩; have J1 := hide (J0.out.step s1 f1); clear s1 f1)
  clear cw0 ck
  go_end0
  refine ⟨rfl, ?_⟩
  have := J1.out.wb
  simpa only [List.append_assoc, List.nil_append] using this
theorem put_n1 (m : Mg) (s : Vs) (hk : m.kind = 1) {B w : World} {b : Nat} (h : Wb B w b []) (hag : m.agent.size ≤ 64) : Calls Tryz.prog 19 #[pb b, .agg (m.cells s).toArray] w fun e w' => e = .returned (.tuple #[]) ∧ Wb B w' b (m.payV) := by
  have M0 := hide (Wm.mk2 h m s)
  have J0 := hide M0.out.x
  have hm := hmf
  have ck := (M0.out.mc J0.out).f0
  rw [hk] at ck
  have eW : (w.alloc (.cells #[pb b] 63)).heap.size = w.heap.size + 1 := by simp
  clear h hk
  go_enter Tryz.func19, Tryz.ntmps19
  go_upto_region 1 with (with_reducible refine at_list ?_; refine wpList_boxA rfl _ rfl (m.cells s).toArray rfl ?_; rw [eW])
  generalize (w.alloc (.cells #[pb b] 63)).alloc (.cells (m.cells s).toArray 38) = A at *
  clear eW
  have cw0 := (M0.out.gx J0.out).c
  go_wp2_with (first | (go_at_call 44; with_reducible refine (putVersion_any m s hag J0.out.wb (by simp)).mono ?_; rintro e W1 ⟨rfl, s1⟩; have JE := hide s1; clear s1) | (with_reducible refine at_list ?_; first | refine wpList_loadS AM _ rfl (w.heap.size + 1) rfl (m.cells s).toArray (m.size s) 38 (M0.out.row J0.out) rfl ?_))
  clear cw0 ck
  go_end0
  refine ⟨rfl, ?_⟩
  have := JE.out
  simpa only [List.nil_append] using this
theorem countL_9 (n : Nat) : (countL n).length ≤ 9 := by
  have h1 := countL_len n
  have h2 := clong_le n
  omega
theorem put_n11 (m : Mg) (s : Vs) (hk : m.kind = 11) {B w : World} {b : Nat} (h : Wb B w b []) (hML : ML B s m) (hn : m.hashes.length ≤ 64) : Calls Tryz.prog 19 #[pb b, .agg (m.cells s).toArray] w fun e w' => e = .returned (.tuple #[]) ∧ Wb B w' b (lowL m.vers.toNat 4 ++ (countL m.hashes.length ++ m.hashes.flatMap (fun x : Id32 => x.1) ++ m.stop.1)) := by
  have M0 := hide (Wm.mk2 h m s)
  have J0 := hide M0.out.x
  have hm := hmf
  have KU32325 : Hid (∀ W l', l'.length ≤ 1000100000 → Wst W (pb b) l' → Calls Tryz.prog 48 #[pb b, .int .u32 (m.vers.toNat : Int)] W fun e w' => e = .returned (.tuple #[]) ∧ Wst w' (pb b) (l' ++ lowL m.vers.toNat 4) ∧ Wfr W w' (pb b)) := fun W l' h1 h2 => wU32 _ _ _ m.vers.toNat_lt _ (by omega) h2
  have LB : Hid ((lowL m.vers.toNat 4).length = 4 ∧ (countL m.hashes.length).length ≤ 9 ∧ (m.hashes.flatMap (fun x : Id32 => x.1)).length ≤ m.hashes.length * 32 ∧ m.hashes.length ≤ 64) := ⟨lowL_len _ _, countL_9 _, flat_len _ 32 _ (fun x _ => Nat.le_of_eq x.2), hn⟩
  obtain ⟨aohash, cahash, eahash⟩ := hML.h.form
  have LXhash := hide (eahash ▸ hML.h)
  have EAhash := hide eahash
  clear eahash
  have KHash621 : Hid (∀ W l', l'.length ≤ 1000100000 → Wst W (pb b) l' → Calls Tryz.prog 52 #[pb b, .agg (cellsL m.stop.1).toArray] W fun e w' => e = .returned (.tuple #[]) ∧ Wst w' (pb b) (l' ++ m.stop.1) ∧ Wfr W w' (pb b)) := fun W l' h1 h2 => wHash _ _ m.stop.1 m.stop.2 _ (by omega) h2
  have ck := (M0.out.mc J0.out).f0
  rw [hk] at ck
  have eW : (w.alloc (.cells #[pb b] 63)).heap.size = w.heap.size + 1 := by simp
  clear h hk hML
  go_enter Tryz.func19, Tryz.ntmps19
  go_upto_region 1 with (with_reducible refine at_list ?_; refine wpList_boxA rfl _ rfl (m.cells s).toArray rfl ?_; rw [eW])
  generalize (w.alloc (.cells #[pb b] 63)).alloc (.cells (m.cells s).toArray 38) = A at *
  clear eW
  have cw0 := (M0.out.gx J0.out).c
  have c1 := (M0.out.mc J0.out).f1
  go_upto_region 15 with (go_at_call 48; with_reducible refine (KU32325.out _ _ (by simp) J0.out.wb.st).mono ?_; rintro e W1 ⟨rfl, s1, f1⟩; have J1 := hide (J0.out.stepN s1 f1); clear s1 f1)
  clear cw0 c1 ck
  have cw1 := (M0.out.gx J1.out).c
  have clhash : W1.cell? ⟨w.heap.size + 1, 49, none⟩ = some (.slice aohash m.hashes.length cahash) := by have := (M0.out.mc J1.out).f13; rwa [EAhash.out] at this
  go_upto_region 16 with (go_at_call 53; with_reducible refine (putList_hash m.hashes (.slice aohash m.hashes.length cahash) J1.out.wb LXhash.out (Nat.le_trans hn (by decide)) (by have := LB.out; simp only [List.length_append, List.length_nil]; omega)).mono ?_; rintro e W2 ⟨rfl, s1, f1⟩; have J2 := hide (J1.out.step s1 f1); clear s1 f1)
  clear cw1
  have cw2 := (M0.out.gx J2.out).c
  have cs := (M0.out.mc J2.out).stop
  go_wp2_with (first | (go_at_call 52; with_reducible refine (KHash621.out _ _ (by have := LB.out; simp only [List.length_append, List.length_nil]; omega) J2.out.wb.st).mono ?_; rintro e W3 ⟨rfl, s1, f1⟩; have J3 := hide (J2.out.stepN s1 f1); clear s1 f1) | (with_reducible refine at_list ?_; first | refine wpLoadH _ rfl (w.heap.size + 1) 50 rfl m.stop cs rfl ?_))
  clear cw2 cs
  go_end0
  refine ⟨rfl, ?_⟩
  have := J3.out.wb
  simpa only [List.append_assoc, List.nil_append] using this
theorem put_n13 (m : Mg) (s : Vs) (hk : m.kind = 13) {B w : World} {b : Nat} (h : Wb B w b []) (hr : m.raw.size ≤ 140737488351232) : Calls Tryz.prog 19 #[pb b, .agg (m.cells s).toArray] w fun e w' => e = .returned (.tuple #[]) ∧ Wb B w' b (m.raw.data.toList) := by
  have M0 := hide (Wm.mk2 h m s)
  have J0 := hide M0.out.x
  have hm := hmf
  have ck := (M0.out.mc J0.out).f0
  rw [hk] at ck
  have eW : (w.alloc (.cells #[pb b] 63)).heap.size = w.heap.size + 1 := by simp
  clear h hk
  go_enter Tryz.func19, Tryz.ntmps19
  go_upto_region 1 with (with_reducible refine at_list ?_; refine wpList_boxA rfl _ rfl (m.cells s).toArray rfl ?_; rw [eW])
  generalize (w.alloc (.cells #[pb b] 63)).alloc (.cells (m.cells s).toArray 38) = A at *
  clear eW
  have cw0 := (M0.out.gx J0.out).c
  have cr := (M0.out.mc J0.out).f18
  go_wp2_with (go_at_call 56; with_reducible refine (wBytes0 b m.raw hr _ J0.out.wb.st).mono ?_; rintro e W1 ⟨rfl, s1, f1⟩; have J1 := hide (J0.out.stepN s1 f1); clear s1 f1)
  clear cw0 cr ck
  go_end0
  refine ⟨rfl, ?_⟩
  have := J1.out.wb
  simpa only [List.append_assoc, List.nil_append] using this
theorem put_n14 (m : Mg) (s : Vs) (hk : m.kind = 14) {B w : World} {b : Nat} (h : Wb B w b []) (hr : m.raw.size ≤ 140737488351232) : Calls Tryz.prog 19 #[pb b, .agg (m.cells s).toArray] w fun e w' => e = .returned (.tuple #[]) ∧ Wb B w' b (m.raw.data.toList) := by
  have M0 := hide (Wm.mk2 h m s)
  have J0 := hide M0.out.x
  have hm := hmf
  have ck := (M0.out.mc J0.out).f0
  rw [hk] at ck
  have eW : (w.alloc (.cells #[pb b] 63)).heap.size = w.heap.size + 1 := by simp
  clear h hk
  go_enter Tryz.func19, Tryz.ntmps19
  go_upto_region 1 with (with_reducible refine at_list ?_; refine wpList_boxA rfl _ rfl (m.cells s).toArray rfl ?_; rw [eW])
  generalize (w.alloc (.cells #[pb b] 63)).alloc (.cells (m.cells s).toArray 38) = A at *
  clear eW
  have cw0 := (M0.out.gx J0.out).c
  have cr := (M0.out.mc J0.out).f18
  go_wp2_with (go_at_call 56; with_reducible refine (wBytes0 b m.raw hr _ J0.out.wb.st).mono ?_; rintro e W1 ⟨rfl, s1, f1⟩; have J1 := hide (J0.out.stepN s1 f1); clear s1 f1)
  clear cw0 cr ck
  go_end0
  refine ⟨rfl, ?_⟩
  have := J1.out.wb
  simpa only [List.append_assoc, List.nil_append] using this
theorem put_n18 (m : Mg) (s : Vs) (hk : m.kind = 18) {B w : World} {b : Nat} (h : Wb B w b []) (hML : ML B s m) (hn : m.raws.length ≤ 500) (hs : ∀ x ∈ m.raws, x.size ≤ 4096) : Calls Tryz.prog 19 #[pb b, .agg (m.cells s).toArray] w fun e w' => e = .returned (.tuple #[]) ∧ Wb B w' b (m.hash.1 ++ (countL m.raws.length ++ m.raws.flatMap rawL)) := by
  have M0 := hide (Wm.mk2 h m s)
  have J0 := hide M0.out.x
  have hm := hmf
  have KHash358 : Hid (∀ W l', l'.length ≤ 1000100000 → Wst W (pb b) l' → Calls Tryz.prog 52 #[pb b, .agg (cellsL m.hash.1).toArray] W fun e w' => e = .returned (.tuple #[]) ∧ Wst w' (pb b) (l' ++ m.hash.1) ∧ Wfr W w' (pb b)) := fun W l' h1 h2 => wHash _ _ m.hash.1 m.hash.2 _ (by omega) h2
  obtain ⟨aoraw, caraw, earaw⟩ := hML.r.form
  have LXraw := hide (earaw ▸ hML.r)
  have EAraw := hide earaw
  clear earaw
  have ck := (M0.out.mc J0.out).f0
  rw [hk] at ck
  have eW : (w.alloc (.cells #[pb b] 63)).heap.size = w.heap.size + 1 := by simp
  clear h hk hML
  go_enter Tryz.func19, Tryz.ntmps19
  go_upto_region 1 with (with_reducible refine at_list ?_; refine wpList_boxA rfl _ rfl (m.cells s).toArray rfl ?_; rw [eW])
  generalize (w.alloc (.cells #[pb b] 63)).alloc (.cells (m.cells s).toArray 38) = A at *
  clear eW
  have cw0 := (M0.out.gx J0.out).c
  have cs := (M0.out.mc J0.out).hash
  go_upto_region 33 with (first | (go_at_call 52; with_reducible refine (KHash358.out _ _ (by simp) J0.out.wb.st).mono ?_; rintro e W1 ⟨rfl, s1, f1⟩; have J1 := hide (J0.out.stepN s1 f1); clear s1 f1) | (with_reducible refine at_list ?_; first | refine wpLoadH _ rfl (w.heap.size + 1) 82 rfl m.hash cs rfl ?_))
  clear cw0 cs ck
  have cw1 := (M0.out.gx J1.out).c
  have clraw : W1.cell? ⟨w.heap.size + 1, 120, none⟩ = some (.slice aoraw m.raws.length caraw) := by have := (M0.out.mc J1.out).f22; rwa [EAraw.out] at this
  go_wp2_with (go_at_call 54; with_reducible refine (putList_raw m.raws (.slice aoraw m.raws.length caraw) J1.out.wb LXraw.out hn (by rw [List.nil_append, m.hash.2]; decide) hs).mono ?_; rintro e W2 ⟨rfl, s1, f1⟩; have J2 := hide (J1.out.step s1 f1); clear s1 f1)
  clear cw1
  go_end0
  refine ⟨rfl, ?_⟩
  have := J2.out.wb
  simpa only [List.append_assoc, List.nil_append] using this
theorem put_n17 (m : Mg) (s : Vs) (hk : m.kind = 17) {B w : World} {b : Nat} (h : Wb B w b []) (hML : ML B s m) (hn : m.places.length ≤ 500) (hri : riseP (-1) m.places) : Calls Tryz.prog 19 #[pb b, .agg (m.cells s).toArray] w fun e w' => e = .returned (.tuple #[]) ∧ Wb B w' b (m.hash.1 ++ (countL m.places.length ++ gapsL (-1) m.places)) := by
  have M0 := hide (Wm.mk2 h m s)
  have J0 := hide M0.out.x
  have hm := hmf
  have KHash358 : Hid (∀ W l', l'.length ≤ 1000100000 → Wst W (pb b) l' → Calls Tryz.prog 52 #[pb b, .agg (cellsL m.hash.1).toArray] W fun e w' => e = .returned (.tuple #[]) ∧ Wst w' (pb b) (l' ++ m.hash.1) ∧ Wfr W w' (pb b)) := fun W l' h1 h2 => wHash _ _ m.hash.1 m.hash.2 _ (by omega) h2
  obtain ⟨aoplace, caplace, eaplace⟩ := hML.p.form
  have LXplace := hide (eaplace ▸ hML.p)
  have EAplace := hide eaplace
  clear eaplace
  have ck := (M0.out.mc J0.out).f0
  rw [hk] at ck
  have eW : (w.alloc (.cells #[pb b] 63)).heap.size = w.heap.size + 1 := by simp
  clear h hk hML
  go_enter Tryz.func19, Tryz.ntmps19
  go_upto_region 1 with (with_reducible refine at_list ?_; refine wpList_boxA rfl _ rfl (m.cells s).toArray rfl ?_; rw [eW])
  generalize (w.alloc (.cells #[pb b] 63)).alloc (.cells (m.cells s).toArray 38) = A at *
  clear eW
  have cw0 := (M0.out.gx J0.out).c
  have cs := (M0.out.mc J0.out).hash
  go_upto_region 29 with (first | (go_at_call 52; with_reducible refine (KHash358.out _ _ (by simp) J0.out.wb.st).mono ?_; rintro e W1 ⟨rfl, s1, f1⟩; have J1 := hide (J0.out.stepN s1 f1); clear s1 f1) | (with_reducible refine at_list ?_; first | refine wpLoadH _ rfl (w.heap.size + 1) 82 rfl m.hash cs rfl ?_))
  clear cw0 cs ck
  have cw1 := (M0.out.gx J1.out).c
  go_upto_region 30 with fail
  have b2 : Below W1.heap.size W1 (W1.alloc (.cells #[.int .i64 (-1)] 3)) := (Below.refl _ _).alloc (Nat.le_refl _) _
  have J2 := hide (J1.out.next b2)
  have H2 := hide (Wh.of_new (M0.out.gx J1.out))
  clear b2 cw1
  generalize W1.alloc (.cells #[.int .i64 (-1)] 3) = W2 at *
  generalize W1.heap.size = ga at *
  have cw1 := (M0.out.gx J2.out).c
  have clplace : W2.cell? ⟨w.heap.size + 1, 119, none⟩ = some (.slice aoplace m.places.length caplace) := by have := (M0.out.mc J2.out).f21; rwa [EAplace.out] at this
  go_wp2_with (go_at_call 60; with_reducible refine (putList_place m.places (.slice aoplace m.places.length caplace) H2.out LXplace.out hn (by rw [List.nil_append, m.hash.2]; decide) hri).mono ?_; rintro e W2 ⟨rfl, s1, f1⟩; have JE := hide s1; clear s1 f1)
  clear cw1
  go_end0
  refine ⟨rfl, ?_⟩
  have := JE.out
  simpa only [List.append_assoc, List.nil_append] using this
theorem putCompact_any (m : Mg) (s : Vs) {B w : World} {b : Nat} (h : Wb B w b []) (hML : ML B s m) (hh : m.head.size ≤ 4096) (hn : m.shorts.length ≤ 500) (hf : m.filled.length ≤ 500) (hri : riseP (-1) (m.filled.map Fd.place)) (hsz : ∀ x ∈ m.filled, x.raw.size ≤ 4096) : Calls Tryz.prog 59 #[pb b, .agg (m.cells s).toArray] w fun e w' => e = .returned (.tuple #[]) ∧ Wb B w' b (m.payC) := by
  have M0 := hide (Wm.mk2 h m s)
  have J0 := hide M0.out.x
  have hm := hmf
  have KBytes698 : Hid (∀ W l', l'.length ≤ 1000100000 → Wst W (pb b) l' → Calls Tryz.prog 56 #[pb b, .string m.head] W fun e w' => e = .returned (.tuple #[]) ∧ Wst w' (pb b) (l' ++ m.head.data.toList) ∧ Wfr W w' (pb b)) := fun W l' h1 h2 => wBytes _ _ m.head (.inr (by omega)) _ (by omega) h2
  have LB : Hid (m.head.data.toList.length ≤ 4096 ∧ (lowL m.nonce.toNat 8).length = 8 ∧ (countL m.shorts.length).length ≤ 9 ∧ (m.shorts.flatMap (fun x : UInt64 => lowL x.toNat 6)).length ≤ m.shorts.length * 6 ∧ m.shorts.length ≤ 500) := ⟨by simpa using hh, lowL_len _ _, countL_9 _, flat_len _ 6 _ (fun x _ => by rw [lowL_len]; exact Nat.le_refl _), hn⟩
  have KU64106 : Hid (∀ W l', l'.length ≤ 1000100000 → Wst W (pb b) l' → Calls Tryz.prog 45 #[pb b, .int .u64 (m.nonce.toNat : Int)] W fun e w' => e = .returned (.tuple #[]) ∧ Wst w' (pb b) (l' ++ lowL m.nonce.toNat 8) ∧ Wfr W w' (pb b)) := fun W l' h1 h2 => wU64 _ _ _ m.nonce.toNat_lt _ (by omega) h2
  obtain ⟨aoshort, cashort, eashort⟩ := hML.sh.form
  have LXshort := hide (eashort ▸ hML.sh)
  have EAshort := hide eashort
  clear eashort
  obtain ⟨aofilled, cafilled, eafilled⟩ := hML.f.form
  have LXfilled := hide (eafilled ▸ hML.f)
  have EAfilled := hide eafilled
  clear eafilled
  have eW : (w.alloc (.cells #[pb b] 63)).heap.size = w.heap.size + 1 := by simp
  clear h hML
  go_enter Tryz.func59, Tryz.ntmps59
  go_upto_region 1 with (with_reducible refine at_list ?_; refine wpList_boxA rfl _ rfl (m.cells s).toArray rfl ?_; rw [eW])
  generalize (w.alloc (.cells #[pb b] 63)).alloc (.cells (m.cells s).toArray 38) = A at *
  clear eW
  have cw0 := (M0.out.gx J0.out).c
  have ch := (M0.out.mc J0.out).f17
  go_upto_region 2 with (go_at_call 56; with_reducible refine (KBytes698.out _ _ (by simp) J0.out.wb.st).mono ?_; rintro e W1 ⟨rfl, s1, f1⟩; have J1 := hide (J0.out.stepN s1 f1); clear s1 f1)
  clear cw0 ch
  have cw1 := (M0.out.gx J1.out).c
  have c3 := (M0.out.mc J1.out).f3
  go_upto_region 3 with (go_at_call 45; with_reducible refine (KU64106.out _ _ (by have := LB.out; simp only [List.length_append, List.length_nil]; omega) J1.out.wb.st).mono ?_; rintro e W2 ⟨rfl, s1, f1⟩; have J2 := hide (J1.out.stepN s1 f1); clear s1 f1)
  clear cw1 c3
  have cw2 := (M0.out.gx J2.out).c
  have clshort : W2.cell? ⟨w.heap.size + 1, 117, none⟩ = some (.slice aoshort m.shorts.length cashort) := by have := (M0.out.mc J2.out).f19; rwa [EAshort.out] at this
  go_upto_region 4 with (go_at_call 104; with_reducible refine (putList_short m.shorts (.slice aoshort m.shorts.length cashort) (M0.out.gx J2.out) LXshort.out hn (by have := LB.out; simp only [List.length_append, List.length_nil]; omega)).mono ?_; rintro e W3 ⟨rfl, s1, f1⟩; have J3 := hide (J2.out.step s1 f1); clear s1 f1)
  clear cw2
  have cw3 := (M0.out.gx J3.out).c
  go_upto_region 5 with fail
  have b2 : Below W3.heap.size W3 (W3.alloc (.cells #[.int .i64 (-1)] 3)) := (Below.refl _ _).alloc (Nat.le_refl _) _
  have J4 := hide (J3.out.next b2)
  have H4 := hide (Wh.of_new (M0.out.gx J3.out))
  clear b2 cw3
  generalize W3.alloc (.cells #[.int .i64 (-1)] 3) = W4 at *
  generalize W3.heap.size = ga at *
  have cw3 := (M0.out.gx J4.out).c
  have clfilled : W4.cell? ⟨w.heap.size + 1, 118, none⟩ = some (.slice aofilled m.filled.length cafilled) := by have := (M0.out.mc J4.out).f20; rwa [EAfilled.out] at this
  go_wp2_with (go_at_call 107; with_reducible refine (putList_filled m.filled (.slice aofilled m.filled.length cafilled) H4.out LXfilled.out hf (by have := LB.out; simp only [List.length_append, List.length_nil]; omega) hri hsz).mono ?_; rintro e W4 ⟨rfl, s1, f1⟩; have JE := hide s1; clear s1 f1)
  clear cw3
  go_end0
  refine ⟨rfl, ?_⟩
  have := JE.out
  simpa only [Mg.payC, List.append_assoc, List.nil_append] using this
theorem put_n16 (m : Mg) (s : Vs) (hk : m.kind = 16) {B w : World} {b : Nat} (h : Wb B w b []) (hML : ML B s m) (hh : m.head.size ≤ 4096) (hn : m.shorts.length ≤ 500) (hf : m.filled.length ≤ 500) (hri : riseP (-1) (m.filled.map Fd.place)) (hsz : ∀ x ∈ m.filled, x.raw.size ≤ 4096) : Calls Tryz.prog 19 #[pb b, .agg (m.cells s).toArray] w fun e w' => e = .returned (.tuple #[]) ∧ Wb B w' b (m.payC) := by
  have M0 := hide (Wm.mk2 h m s)
  have J0 := hide M0.out.x
  have hm := hmf
  have ck := (M0.out.mc J0.out).f0
  rw [hk] at ck
  have eW : (w.alloc (.cells #[pb b] 63)).heap.size = w.heap.size + 1 := by simp
  clear h hk
  go_enter Tryz.func19, Tryz.ntmps19
  go_upto_region 1 with (with_reducible refine at_list ?_; refine wpList_boxA rfl _ rfl (m.cells s).toArray rfl ?_; rw [eW])
  generalize (w.alloc (.cells #[pb b] 63)).alloc (.cells (m.cells s).toArray 38) = A at *
  clear eW
  have cw0 := (M0.out.gx J0.out).c
  go_wp2_with (first | (go_at_call 59; with_reducible refine (putCompact_any m s J0.out.wb hML hh hn hf hri hsz).mono ?_; rintro e W1 ⟨rfl, s1⟩; have JE := hide s1; clear s1) | (with_reducible refine at_list ?_; first | refine wpList_loadS AM _ rfl (w.heap.size + 1) rfl (m.cells s).toArray (m.size s) 38 (M0.out.row J0.out) rfl ?_))
  clear cw0 ck
  go_end0
  refine ⟨rfl, ?_⟩
  have := JE.out
  exact this
theorem put_n2 (m : Mg) (s : Vs) (hk : m.kind = 2) {B w : World} {b : Nat} (h : Wb B w b []) : Calls Tryz.prog 19 #[pb b, .agg (m.cells s).toArray] w fun e w' => e = .returned (.tuple #[]) ∧ Wb B w' b [] := by
  have M0 := hide (Wm.mk2 h m s)
  have J0 := hide M0.out.x
  have ck := (M0.out.mc J0.out).f0
  rw [hk] at ck
  have eW : (w.alloc (.cells #[pb b] 63)).heap.size = w.heap.size + 1 := by simp
  clear h hk
  go_enter Tryz.func19, Tryz.ntmps19
  go_upto_region 1 with (with_reducible refine at_list ?_; refine wpList_boxA rfl _ rfl (m.cells s).toArray rfl ?_; rw [eW])
  generalize (w.alloc (.cells #[pb b] 63)).alloc (.cells (m.cells s).toArray 38) = A at *
  go_wp2
  go_end0
  exact ⟨rfl, J0.out.wb⟩
theorem put_n3 (m : Mg) (s : Vs) (hk : m.kind = 3) {B w : World} {b : Nat} (h : Wb B w b []) : Calls Tryz.prog 19 #[pb b, .agg (m.cells s).toArray] w fun e w' => e = .returned (.tuple #[]) ∧ Wb B w' b [] := by
  have M0 := hide (Wm.mk2 h m s)
  have J0 := hide M0.out.x
  have ck := (M0.out.mc J0.out).f0
  rw [hk] at ck
  have eW : (w.alloc (.cells #[pb b] 63)).heap.size = w.heap.size + 1 := by simp
  clear h hk
  go_enter Tryz.func19, Tryz.ntmps19
  go_upto_region 1 with (with_reducible refine at_list ?_; refine wpList_boxA rfl _ rfl (m.cells s).toArray rfl ?_; rw [eW])
  generalize (w.alloc (.cells #[pb b] 63)).alloc (.cells (m.cells s).toArray 38) = A at *
  go_wp2
  go_end0
  exact ⟨rfl, J0.out.wb⟩
theorem put_n4 (m : Mg) (s : Vs) (hk : m.kind = 4) {B w : World} {b : Nat} (h : Wb B w b []) : Calls Tryz.prog 19 #[pb b, .agg (m.cells s).toArray] w fun e w' => e = .returned (.tuple #[]) ∧ Wb B w' b [] := by
  have M0 := hide (Wm.mk2 h m s)
  have J0 := hide M0.out.x
  have ck := (M0.out.mc J0.out).f0
  rw [hk] at ck
  have eW : (w.alloc (.cells #[pb b] 63)).heap.size = w.heap.size + 1 := by simp
  clear h hk
  go_enter Tryz.func19, Tryz.ntmps19
  go_upto_region 1 with (with_reducible refine at_list ?_; refine wpList_boxA rfl _ rfl (m.cells s).toArray rfl ?_; rw [eW])
  generalize (w.alloc (.cells #[pb b] 63)).alloc (.cells (m.cells s).toArray 38) = A at *
  go_wp2
  go_end0
  exact ⟨rfl, J0.out.wb⟩
end
end Go.Proofs.YtkoidjaaojmcnaaGreat
