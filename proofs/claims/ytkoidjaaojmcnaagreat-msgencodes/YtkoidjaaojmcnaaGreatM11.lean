/- A ping as bytes: Encode of it. Messages as bytes: what a writer holds while they are put; addresses. Messages as bytes: the elements of lists. -/
import Derived.Test.YtkoidjaaojmcnaaGreatM02
import Derived.Test.YtkoidjaaojmcnaaGreatM08
import Derived.Test.YtkoidjaaojmcnaaGreatM09
import Derived.Test.YtkoidjaaojmcnaaGreatM10
import Derived.Test.YtkoidjaaojmcnaaGreatM04
namespace Go.Proofs.YtkoidjaaojmcnaaGreat
open Go.RowKit
open Go.Deep
/-- A writer at block b that holds l, all made behind B. -/
structure Wb (B w : World) (b : Nat) (l : List UInt8) : Prop where
  st : Wst w (.pointer (some ⟨b, 0, none⟩)) l
  bel : Below B.heap.size B w
  far : B.heap.size ≤ b
  row : ∀ k, rowOf w (.pointer (some ⟨b, 0, none⟩)) = some k → B.heap.size ≤ k
theorem Wb.new (w : World) : Wb w (w.alloc (.cells #[.slice none 0 0] 97)) w.heap.size [] := by
  refine ⟨Wst.new w, (Below.refl _ _).alloc (Nat.le_refl _) _, Nat.le_refl _, fun k hk => ?_⟩
  have hc : (w.alloc (.cells #[.slice none 0 0] 97)).cell? ⟨w.heap.size, 0, none⟩ = some (.slice none 0 0) := by
    rw [cell_of_row _ _ 0 _ _ _ (heap_alloc_new w _)]; rfl
  simp [rowOf, hc, Value.ownBlock] at hk
theorem Wb.step {B w w' : World} {b : Nat} {l l' : List UInt8} (h : Wb B w b l) (s : Wst w' (.pointer (some ⟨b, 0, none⟩)) l') (f : Wfr w w' (.pointer (some ⟨b, 0, none⟩))) : Wb B w' b l' := by
  have hs := h.bel.size
  refine ⟨s, h.bel.trans ⟨f.os, f.tape, f.output, f.size, fun k hk => f.block k (by omega) ?_ ?_⟩, h.far, fun k hk => ?_⟩
  · have := h.far
    simp [blkOf]
    omega
  · intro e
    have := h.row k e
    omega
  · rcases f.lies with e | ⟨g, e, hg⟩
    · exact h.row k (by rw [← e]; exact hk)
    · rw [e] at hk
      cases hk
      omega
theorem Wb.next {B w w' : World} {b : Nat} {l : List UInt8} (h : Wb B w b l) (k : Below w.heap.size w w') : Wb B w' b l := h.step (h.st.below k) (Wfr.of_below h.st k)
section
set_option maxRecDepth 10000
set_option maxHeartbeats 4000000
theorem hasMore_5 (m : Mg) (s : Vs) (hk : m.kind = 5) (w : World) : Calls Tryz.prog 14 #[.agg (m.cells s).toArray] w fun e w' => e = .returned (.bool false) ∧ Below w.heap.size w w' := by
  have B1 := hide ((Below.refl w.heap.size w).alloc (Nat.le_refl _) (.cells (m.cells s).toArray 38))
  have c0 := (Mc.of (m := m) (s := s) (heap_alloc_last w (.cells (m.cells s).toArray 38))).f0
  rw [hk] at c0
  clear hk
  generalize (m.cells s).toArray = C at *
  go_enter Tryz.func14, Tryz.ntmps14
  go_wp2_with (with_reducible refine at_list ?_; refine wpList_boxA rfl _ rfl C rfl ?_)
  go_ret
  exact ⟨rfl, B1.out⟩
theorem wellFormed_5 (m : Mg) (s : Vs) (hk : m.kind = 5) (w : World) : Calls Tryz.prog 15 #[.agg (m.cells s).toArray] w fun e w' => e = .returned (.bool true) ∧ Below w.heap.size w w' := by
  have B1 := hide ((Below.refl w.heap.size w).alloc (Nat.le_refl _) (.cells (m.cells s).toArray 38))
  have c0 := (Mc.of (m := m) (s := s) (heap_alloc_last w (.cells (m.cells s).toArray 38))).f0
  rw [hk] at c0
  clear hk
  generalize (m.cells s).toArray = C at *
  go_enter Tryz.func15, Tryz.ntmps15
  go_wp2_with (with_reducible refine at_list ?_; refine wpList_boxA rfl _ rfl C rfl ?_)
  go_ret
  exact ⟨rfl, B1.out⟩
theorem unnamed_5 (m : Mg) (s : Vs) (hs : s.ok) (hk : m.kind = 5) (w : World) : Calls Tryz.prog 16 #[.agg (m.cells s).toArray] w fun e w' => e = .returned (.agg (({ m with nonce := 0 } : Mg).cells s).toArray) ∧ Below w.heap.size w w' := by
  have e1 := heap_alloc_last w (.cells (m.cells s).toArray 38)
  have r1 := (Below.heap_alloc _ (.cells (zM.cells nil8).toArray 38) _ (lt_heap e1)).trans e1
  have r2 := heap_alloc_last (w.alloc (.cells (m.cells s).toArray 38)) (.cells (zM.cells nil8).toArray 38)
  rw [show (w.alloc (.cells (m.cells s).toArray 38)).heap.size = w.heap.size + 1 by simp] at r2
  have b1 : Below w.heap.size w ((w.alloc (.cells (m.cells s).toArray 38)).alloc (.cells (zM.cells nil8).toArray 38)) := ((Below.refl _ _).alloc (Nat.le_refl _) _).alloc (by simp) _
  have hsz : (w.alloc (.cells (m.cells s).toArray 38)).heap.size = w.heap.size + 1 := by simp
  have c0 := (Mc.of (m := m) (s := s) r1).f0
  have c3 := (Mc.of (m := m) (s := s) r1).f3
  have f3 := frozen_of_row _ _ 3 _ _ r1
  rw [hk] at c0
  have HO := hide (({ m with nonce := 0 } : Mg).one s hs)
  have HZ := hide (({ m with nonce := 0 } : Mg).size s)
  have A0 := hide (And.intro AM (zM.size nil8))
  generalize hW : (w.alloc (.cells (m.cells s).toArray 38)).alloc (.cells (zM.cells nil8).toArray 38) = W0 at *
  have R1 : Hid ((W0.setCell ⟨w.heap.size, 3, none⟩ (.int .u64 0)).heap[w.heap.size]? = some (.cells (({ m with nonce := 0 } : Mg).cells s).toArray 38 (0, 0))) := by
    show _ = _
    have := (mcf_of m s r1).set 3 (.int .u64 0)
    exact mcf_row _ _ (this.congr (g := mcf ({ m with nonce := 0 } : Mg) s) fun j hj => by
      unfold mcf
      rw [show ({ m with nonce := 0 } : Mg).cells s = (m.cells s).set 3 (.int .u64 0) from rfl]
      by_cases h : j = 3
      · subst h
        rfl
      · rw [if_neg h, List.getElem?_set_ne (Ne.symm h)])
  have R2 : Hid ((W0.setCell ⟨w.heap.size, 3, none⟩ (.int .u64 0)).heap[w.heap.size + 1]? = some (.cells (zM.cells nil8).toArray 38 (0, 0))) := (blk_setCell_other _ _ _ _ (fun e => by have e' : w.heap.size + 1 = w.heap.size := e; omega)).trans r2
  have B2 : Hid (Below w.heap.size w (W0.setCell ⟨w.heap.size, 3, none⟩ (.int .u64 0))) := b1.trans ((Rfr.setCell w.heap.size W0 3 (.int .u64 0)).to_below (Nat.le_refl _) b1.size)
  clear r1 r2 b1 e1 hk hs
  go_enter Tryz.func16, Tryz.ntmps16
  generalize (({ m with nonce := 0 } : Mg).cells s).toArray = D at *
  generalize (m.cells s).toArray = C at *
  go_upto_region 1 with (with_reducible refine at_list ?_; first | refine wpList_boxA rfl _ rfl C rfl ?_ | refine wpList_allocA AM rfl rfl ?_)
  rw [hW, hsz]
  clear hW hsz
  generalize (zM.cells nil8).toArray = Z at *
  go_upto_region 30 with fail
  generalize W0.setCell ⟨w.heap.size, 3, none⟩ (.int .u64 0) = W1 at *
  have FF := hide (setRow_heap W1 (w.heap.size + 1) _ D _ _ R2.out)
  have BF := hide (below_setRow B2.out (Nat.le_succ _) D)
  go_wp2_with ((with_reducible refine at_list ?_); first | refine wpList_loadS A0.out.1 _ rfl w.heap.size rfl D HZ.out 38 R1.out rfl ?_ | refine wpList_storeA A0.out.1 rfl _ _ rfl (w.heap.size + 1) D HZ.out HO.out rfl rfl Z A0.out.2 38 R2.out ?_)
  refine bodyPost_ret (resA A0.out.1 rfl _ _ _ _ D HZ.out rfl FF.out) rfl ?_
  exact ⟨rfl, BF.out⟩
theorem put_5 (m : Mg) (s : Vs) (hk : m.kind = 5) {B w : World} {b : Nat} (h : Wb B w b []) : Calls Tryz.prog 19 #[.pointer (some ⟨b, 0, none⟩), .agg (m.cells s).toArray] w fun e w' => e = .returned (.tuple #[]) ∧ Wb B w' b (lowL m.nonce.toNat 8) := by
  have e1 := heap_alloc_last w (.cells #[.pointer (some ⟨b, 0, none⟩)] 63)
  have r1 := (Below.heap_alloc _ (.cells (m.cells s).toArray 38) _ (lt_heap e1)).trans e1
  have r2 := heap_alloc_last (w.alloc (.cells #[.pointer (some ⟨b, 0, none⟩)] 63)) (.cells (m.cells s).toArray 38)
  have hsz : (w.alloc (.cells #[.pointer (some ⟨b, 0, none⟩)] 63)).heap.size = w.heap.size + 1 := by simp
  rw [hsz] at r2
  have J := hide (h.next ((((Below.refl _ _).alloc (Nat.le_refl _) (.cells #[.pointer (some ⟨b, 0, none⟩)] 63))).alloc (by simp) (.cells (m.cells s).toArray 38)))
  have c0 := (Mc.of (m := m) (s := s) r2).f0
  have c3 := (Mc.of (m := m) (s := s) r2).f3
  have cw : ((w.alloc (.cells #[.pointer (some ⟨b, 0, none⟩)] 63)).alloc (.cells (m.cells s).toArray 38)).cell? ⟨w.heap.size, 0, none⟩ = some (.pointer (some ⟨b, 0, none⟩)) := by rw [cell_of_row _ _ 0 _ _ _ r1]; rfl
  rw [hk] at c0
  have HU := hide (show U64 m.nonce.toNat from m.nonce.toNat_lt)
  clear r1 r2 e1 hk h
  generalize (m.cells s).toArray = C at *
  generalize m.nonce.toNat = n at *
  go_enter Tryz.func19, Tryz.ntmps19
  go_wp2_with (first | (go_at_call 45; refine (wU64 _ _ n HU.out _ (by simp) J.out.st).mono ?_; rintro e w2 ⟨rfl, s2, f2⟩; have J2 := hide (J.out.step s2 f2); rw [List.nil_append] at J2; clear s2 f2) | (with_reducible refine at_list ?_; refine wpList_boxA rfl _ rfl C rfl ?_; rw [hsz]))
  go_end0
  exact ⟨rfl, J2.out⟩
end
end Go.Proofs.YtkoidjaaojmcnaaGreat
namespace Go.Proofs.YtkoidjaaojmcnaaGreat
open Go.RowKit
open Go.Deep
abbrev pb (b : Nat) : Value := .pointer (some ⟨b, 0, none⟩)
theorem Wst.row_lt {w : World} {b k : Nat} {l : List UInt8} (h : Wst w (pb b) l) (hk : rowOf w (pb b) = some k) : k < w.heap.size := by
  rcases h with h | ⟨b', v, hp, hc, hf, ho, hne⟩
  · cases h
  · cases hp
    have e : v.ownBlock = some k := by
      have : rowOf w (pb b) = v.ownBlock := by simp [rowOf, hc]
      rw [← this]
      exact hk
    rcases ho.2 with ⟨rfl, h0⟩ | ⟨g', cap, cur, rfl, h4, hg, h5⟩
    · cases e
    · cases e
      exact lt_heap hg
theorem Wst.lt {w : World} {b : Nat} {l : List UInt8} (h : Wst w (pb b) l) : b < w.heap.size := by
  rcases h with h | ⟨b', v, hp, hc, hf, ho, hne⟩
  · cases h
  · cases hp
    exact block_lt_of_cell hc
/-- A writer at b, made behind B; since A nothing has changed but the writer, its row and new blocks. -/
structure Wx (B A w : World) (b : Nat) (l : List UInt8) : Prop where
  wb : Wb B w b l
  fr : Wfr A w (pb b)
theorem Wx.start {B A : World} {b : Nat} {l : List UInt8} (h : Wb B A b l) : Wx B A A b l := ⟨h, Wfr.refl _ _⟩
theorem Wx.step {B A w w' : World} {b : Nat} {l l' : List UInt8} (h : Wx B A w b l) (s : Wb B w' b l') (f : Wfr w w' (pb b)) : Wx B A w' b l' := ⟨s, h.fr.trans f⟩
theorem Wx.stepN {B A w w' : World} {b : Nat} {l l' : List UInt8} (h : Wx B A w b l) (s : Wst w' (pb b) l') (f : Wfr w w' (pb b)) : Wx B A w' b l' := ⟨h.wb.step s f, h.fr.trans f⟩
theorem Wx.next {B A w w' : World} {b : Nat} {l : List UInt8} (h : Wx B A w b l) (k : Below w.heap.size w w') : Wx B A w' b l := ⟨h.wb.next k, h.fr.trans (Wfr.of_below h.wb.st k)⟩
/-- A block that a function has made for itself stays. -/
theorem Wx.kept {B A0 A w : World} {b g : Nat} {l l0 : List UInt8} (h : Wx B A w b l) (h0 : Wb B A0 b l0) (k : Below A0.heap.size A0 A) (h1 : A0.heap.size ≤ g) (h2 : g < A.heap.size) : w.heap[g]? = A.heap[g]? := by
  have hb := h0.st.lt
  refine h.fr.block g h2 (by simp [blkOf]; omega) (fun e => ?_)
  have h3 := Wfr.of_below h0.st k
  have e2 : rowOf A (pb b) = rowOf A0 (pb b) := by
    have : A.cell? ⟨b, 0, none⟩ = A0.cell? ⟨b, 0, none⟩ := k.cell (p := ⟨b, 0, none⟩) hb
    simp [rowOf, this]
  rw [e2] at e
  have := h0.st.row_lt e
  omega
/-- .. from the function's own start. -/
theorem Wx.back {B A0 A w : World} {b : Nat} {l l0 : List UInt8} (h : Wx B A w b l) (h0 : Wb B A0 b l0) (k : Below A0.heap.size A0 A) : Wfr A0 w (pb b) := (Wfr.of_below h0.st k).trans h.fr
/-- The bytes of an address, without its time. -/
def Nt.bytes (x : Nt) : List UInt8 := lowL x.serv.toNat 8 ++ x.ip ++ (lowL x.port.toNat 2).reverse
theorem Nt.bytes_len (x : Nt) : x.bytes.length = 26 := by simp [Nt.bytes, lowL_len, x.hip]
/-- Bytes cut out of a struct's array, turned into a text. -/
theorem conv_mid (w : World) (g off : Nat) (l : List UInt8) (h : w.rangeAt g off (cellsL l)) (n : Nat) (hn : n = l.length) : (convert 95 9 (.slice (some ⟨g, off, none⟩) n n)).run Tryz.prog w = .ok (.string ⟨l.toArray⟩) w := by
  have := run_convert_bytes_back (P := Tryz.prog) w 95 9 5 ⟨g, off, none⟩ n l Tryz.underlying95 Tryz.underlying5 Tryz.underlying9 (fun j hj => by
    have hadd : (⟨g, off, none⟩ : Addr).add j = ⟨g, off + j, none⟩ := by unfold Addr.add; split <;> simp_all
    rw [hadd]
    exact h j _ (by simp [cellsL, hj]))
  rwa [← hn] at this
section
set_option maxRecDepth 10000
set_option maxHeartbeats 4000000
theorem putNet_any (x : Nt) {B w : World} {b : Nat} {l : List UInt8} (h : Wb B w b l) (hl : l.length ≤ 35184372088000) : Calls Tryz.prog 49 #[pb b, .agg x.cells.toArray] w fun e w' => e = .returned (.tuple #[]) ∧ Wb B w' b (l ++ x.bytes) ∧ Wfr w w' (pb b) := by
  have bA : Below w.heap.size w (w.alloc (.cells x.cells.toArray 27)) := (Below.refl _ _).alloc (Nat.le_refl _) _
  have rA := heap_alloc_last w (.cells x.cells.toArray 27)
  have J0 := hide (Wx.start (h.next bA))
  have KP : Hid (∀ W l', Wx B (w.alloc (.cells x.cells.toArray 27)) W b l' → W.heap[w.heap.size]? = some (.cells x.cells.toArray 27 (0, 0))) := fun W l' j => (j.kept h bA (Nat.le_refl _) (by simp)).trans rA
  have BK : Hid (∀ W l', Wx B (w.alloc (.cells x.cells.toArray 27)) W b l' → Wfr w W (pb b)) := fun W l' j => j.back h bA
  have c1 : (w.alloc (.cells x.cells.toArray 27)).cell? ⟨w.heap.size, 1, none⟩ = some (.int .u64 (x.serv.toNat : Int)) := by rw [cell_of_row _ _ _ _ _ _ rA]; rfl
  have HL := hide hl
  have HX : Hid (∀ W l', l'.length ≤ 35184372088832 → Wst W (pb b) l' → Calls Tryz.prog 45 #[pb b, .int .u64 (x.serv.toNat : Int)] W fun e w' => e = .returned (.tuple #[]) ∧ Wst w' (pb b) (l' ++ lowL x.serv.toNat 8) ∧ Wfr W w' (pb b)) := fun W l' h1 h2 => wU64 _ _ _ x.serv.toNat_lt _ h1 h2
  have HB : Hid (∀ W l', l'.length ≤ 35184372088832 → Wst W (pb b) l' → Calls Tryz.prog 56 #[pb b, .string ⟨x.ip.toArray⟩] W fun e w' => e = .returned (.tuple #[]) ∧ Wst w' (pb b) (l' ++ x.ip) ∧ Wfr W w' (pb b)) := fun W l' h1 h2 => wBytes _ _ ⟨x.ip.toArray⟩ (.inr (by show x.ip.toArray.size ≤ _; rw [List.size_toArray, x.hip]; decide)) _ (by omega) h2
  have HG : Hid (∀ W l', l'.length ≤ 35184372088832 → Wst W (pb b) l' → Calls Tryz.prog 101 #[pb b, .int .u16 (x.port.toNat : Int)] W fun e w' => e = .returned (.tuple #[]) ∧ Wst w' (pb b) (l' ++ (lowL x.port.toNat 2).reverse) ∧ Wfr W w' (pb b)) := fun W l' h1 h2 => by
    have := wBig (pb b) l' x.port.toNat x.port.toNat_lt W h1 h2
    rwa [lowL_swap _ x.port.toNat_lt] at this
  have CI : Hid (∀ W : World, W.heap[w.heap.size]? = some (.cells x.cells.toArray 27 (0, 0)) → W.rangeAt w.heap.size 2 (cellsL x.ip) ∧ W.cell? ⟨w.heap.size, 18, none⟩ = some (.int .u16 (x.port.toNat : Int))) := fun W hW => by
    refine ⟨fun j v hv => ?_, by rw [cell_of_row _ _ _ _ _ _ hW]; exact x.port_at⟩
    have hj := (List.getElem?_eq_some_iff.1 hv).1
    rw [cellsL_len, x.hip] at hj
    rw [cell_of_row _ _ _ _ _ _ hW, List.getElem?_toArray, x.at_ip j hj]
    exact hv
  have L8 := lowL_len x.serv.toNat 8
  have LI := x.hip
  clear h hl bA rA
  go_enter Tryz.func49, Tryz.ntmps49
  go_upto_region 2 with (first | (go_at_call 45; refine (HX.out _ _ (by have := HL.out; omega) J0.out.wb.st).mono ?_; rintro e W1 ⟨rfl, s1, f1⟩; have J1 := hide (J0.out.stepN s1 f1); clear s1 f1) | (with_reducible refine at_list ?_; refine wpList_boxA rfl _ rfl x.cells.toArray rfl ?_))
  have hcv := conv_mid W1 w.heap.size 2 x.ip (CI.out _ (KP.out _ _ J1.out)).1 16 x.hip.symm
  go_upto_region 3 with (go_at_call 56; refine (HB.out _ _ (by have := HL.out; rw [List.length_append]; omega) J1.out.wb.st).mono ?_; rintro e W2 ⟨rfl, s1, f1⟩; have J2 := hide (J1.out.stepN s1 f1); clear s1 f1)
  have cp := (CI.out _ (KP.out _ _ J2.out)).2
  go_wp2_with (go_at_call 101; refine (HG.out _ _ (by have := HL.out; rw [List.length_append, List.length_append]; omega) J2.out.wb.st).mono ?_; rintro e W3 ⟨rfl, s1, f1⟩; have J3 := hide (J2.out.stepN s1 f1); clear s1 f1)
  go_end0
  refine ⟨rfl, ?_, BK.out _ _ J3.out⟩
  have := J3.out.wb
  simpa [Nt.bytes, List.append_assoc] using this
end
end Go.Proofs.YtkoidjaaojmcnaaGreat
namespace Go.Proofs.YtkoidjaaojmcnaaGreat
open Go.RowKit
open Go.Deep
/-- A writer, and a box that holds its pointer. -/
structure Wg (B w : World) (b g : Nat) (l : List UInt8) : Prop where
  wb : Wb B w b l
  cell : w.heap[g]? = some (.cells #[pb b] 63 (0, 0))
  ne : g ≠ b
  row : rowOf w (pb b) ≠ some g
section
variable {B w w' : World} {b g : Nat} {l l' : List UInt8}
theorem Wg.step (h : Wg B w b g l) (s : Wb B w' b l') (f : Wfr w w' (pb b)) : Wg B w' b g l' := by
  have hg := lt_heap h.cell
  refine ⟨s, (f.block g hg (by simp [blkOf]; exact fun e => h.ne e.symm) h.row).trans h.cell, h.ne, fun e => ?_⟩
  rcases f.lies with e1 | ⟨k, e1, hk⟩
  · exact h.row (by rw [← e1]; exact e)
  · rw [e1] at e
    cases e
    omega
theorem Wg.stepN (h : Wg B w b g l) (s : Wst w' (pb b) l') (f : Wfr w w' (pb b)) : Wg B w' b g l' := h.step (h.wb.step s f) f
theorem Wg.next (h : Wg B w b g l) (k : Below w.heap.size w w') : Wg B w' b g l := h.step (h.wb.next k) (Wfr.of_below h.wb.st k)
theorem Wg.c (h : Wg B w b g l) : w.cell? ⟨g, 0, none⟩ = some (pb b) := by rw [cell_of_row _ _ 0 _ _ _ h.cell]; rfl
/-- .. later in a function that began with it. -/
theorem Wg.at {A : World} (h : Wg B A b g l) (j : Wx B A w b l') : Wg B w b g l' := h.step j.wb j.fr
end
def Nt.full (x : Nt) : List UInt8 := lowL x.time.toNat 4 ++ x.bytes
def Im.bytes (x : Im) : List UInt8 := lowL x.kind.toNat 4 ++ x.hash
theorem Nt.full_len (x : Nt) : x.full.length = 30 := by simp [Nt.full, lowL_len, x.bytes_len]
theorem Im.bytes_len (x : Im) : x.bytes.length = 36 := by simp [Im.bytes, lowL_len, x.hh]
theorem countL0 : countL 0 = [0] := by decide
theorem lowL_join (n : Nat) : lowL (n % 4294967296) 4 ++ lowL (n / 4294967296 % 65536) 2 = lowL n 6 := by
  have e1 : ∀ k m : Nat, lowL n (k + m) = lowL n k ++ lowL (n / 256 ^ k) m := by
    intro k
    induction k generalizing n with
    | zero => intro m; simp [lowL]
    | succ k ih =>
      intro m
      rw [show k + 1 + m = (k + m) + 1 by omega]
      simp only [lowL, List.cons_append]
      rw [ih (n / 256) m, Nat.div_div_eq_div_mul, Nat.pow_succ', ]
  rw [show (6 : Nat) = 4 + 2 from rfl, e1 4 2]
  rw [show (4294967296 : Nat) = 256 ^ 4 from rfl, lowL_mod n 4 (256 ^ 4) (Nat.dvd_refl _), show (65536 : Nat) = 256 ^ 2 from rfl, lowL_mod _ 2 (256 ^ 2) (Nat.dvd_refl _)]
section
set_option maxRecDepth 10000
set_option maxHeartbeats 4000000
theorem el_net (x : Nt) {B w : World} {b g : Nat} {l : List UInt8} (h : Wg B w b g l) (hl : l.length ≤ 35184372080000) : Calls Tryz.prog 47 #[.agg x.cells.toArray, pb g] w fun e w' => e = .returned (.tuple #[]) ∧ Wb B w' b (l ++ x.full) ∧ Wfr w w' (pb b) := by
  have bA : Below w.heap.size w (w.alloc (.cells x.cells.toArray 27)) := (Below.refl _ _).alloc (Nat.le_refl _) _
  have rA := heap_alloc_last w (.cells x.cells.toArray 27)
  have J0 := hide (Wx.start (h.wb.next bA))
  have G0 := hide (h.next bA)
  have h0 := h.wb
  have KP : Hid (∀ W l', Wx B (w.alloc (.cells x.cells.toArray 27)) W b l' → W.heap[w.heap.size]? = some (.cells x.cells.toArray 27 (0, 0))) := fun W l' j => (j.kept h0 bA (Nat.le_refl _) (by simp)).trans rA
  have BK : Hid (∀ W l', Wx B (w.alloc (.cells x.cells.toArray 27)) W b l' → Wfr w W (pb b)) := fun W l' j => j.back h0 bA
  have c0 : (w.alloc (.cells x.cells.toArray 27)).cell? ⟨w.heap.size, 0, none⟩ = some (.int .u32 (x.time.toNat : Int)) := by rw [cell_of_row _ _ _ _ _ _ rA]; rfl
  have cg := G0.out.c
  have HL := hide hl
  have HX : Hid (∀ W l', l'.length ≤ 35184372088832 → Wst W (pb b) l' → Calls Tryz.prog 48 #[pb b, .int .u32 (x.time.toNat : Int)] W fun e w' => e = .returned (.tuple #[]) ∧ Wst w' (pb b) (l' ++ lowL x.time.toNat 4) ∧ Wfr W w' (pb b)) := fun W l' h1 h2 => wU32 _ _ _ x.time.toNat_lt _ h1 h2
  have HN : Hid (∀ W l', l'.length ≤ 35184372088000 → Wb B W b l' → Calls Tryz.prog 49 #[pb b, .agg x.cells.toArray] W fun e w' => e = .returned (.tuple #[]) ∧ Wb B w' b (l' ++ x.bytes) ∧ Wfr W w' (pb b)) := fun W l' h1 h2 => putNet_any x h2 h1
  have HS : Hid (x.cells.toArray.size = 19) := by show _ = _; rw [List.size_toArray, x.len]
  have L4 := lowL_len x.time.toNat 4
  clear h h0 hl bA rA
  go_enter Tryz.func47, Tryz.ntmps47
  go_upto_region 2 with (first | (go_at_call 48; refine (HX.out _ _ (by have := HL.out; omega) J0.out.wb.st).mono ?_; rintro e W1 ⟨rfl, s1, f1⟩; have J1 := hide (J0.out.stepN s1 f1); have G1 := hide (G0.out.stepN s1 f1); clear s1 f1) | (with_reducible refine at_list ?_; refine wpList_boxA rfl _ rfl x.cells.toArray rfl ?_))
  have c1 := G1.out.c
  have R1 := hide (KP.out _ _ J1.out)
  go_wp2_with (first | (go_at_call 49; refine (HN.out _ _ (by have := HL.out; rw [List.length_append]; omega) J1.out.wb).mono ?_; rintro e W2 ⟨rfl, s1, f1⟩; have J2 := hide (J1.out.step s1 f1); clear s1 f1) | (with_reducible refine at_list ?_; refine wpList_loadS AN _ rfl w.heap.size rfl x.cells.toArray HS.out 27 R1.out rfl ?_))
  go_end0
  refine ⟨rfl, ?_, BK.out _ _ J2.out⟩
  have := J2.out.wb
  rw [List.append_assoc] at this
  exact this
theorem el_item (x : Im) {B w : World} {b g : Nat} {l : List UInt8} (h : Wg B w b g l) (hl : l.length ≤ 35184372080000) : Calls Tryz.prog 51 #[.agg x.cells.toArray, pb g] w fun e w' => e = .returned (.tuple #[]) ∧ Wb B w' b (l ++ x.bytes) ∧ Wfr w w' (pb b) := by
  have bA : Below w.heap.size w (w.alloc (.cells x.cells.toArray 73)) := (Below.refl _ _).alloc (Nat.le_refl _) _
  have rA := heap_alloc_last w (.cells x.cells.toArray 73)
  have J0 := hide (Wx.start (h.wb.next bA))
  have G0 := hide (h.next bA)
  have h0 := h.wb
  have KP : Hid (∀ W l', Wx B (w.alloc (.cells x.cells.toArray 73)) W b l' → W.heap[w.heap.size]? = some (.cells x.cells.toArray 73 (0, 0))) := fun W l' j => (j.kept h0 bA (Nat.le_refl _) (by simp)).trans rA
  have BK : Hid (∀ W l', Wx B (w.alloc (.cells x.cells.toArray 73)) W b l' → Wfr w W (pb b)) := fun W l' j => j.back h0 bA
  have c0 : (w.alloc (.cells x.cells.toArray 73)).cell? ⟨w.heap.size, 0, none⟩ = some (.int .u32 (x.kind.toNat : Int)) := by rw [cell_of_row _ _ _ _ _ _ rA]; rfl
  have cg := G0.out.c
  have HL := hide hl
  have HX : Hid (∀ W l', l'.length ≤ 35184372088832 → Wst W (pb b) l' → Calls Tryz.prog 48 #[pb b, .int .u32 (x.kind.toNat : Int)] W fun e w' => e = .returned (.tuple #[]) ∧ Wst w' (pb b) (l' ++ lowL x.kind.toNat 4) ∧ Wfr W w' (pb b)) := fun W l' h1 h2 => wU32 _ _ _ x.kind.toNat_lt _ h1 h2
  have HN : Hid (∀ W l', l'.length ≤ 35184372088832 → Wst W (pb b) l' → Calls Tryz.prog 52 #[pb b, .agg (hc x.hash)] W fun e w' => e = .returned (.tuple #[]) ∧ Wst w' (pb b) (l' ++ x.hash) ∧ Wfr W w' (pb b)) := fun W l' h1 h2 => wHash _ _ x.hash x.hh _ h1 h2
  have RH : Hid (∀ W : World, W.heap[w.heap.size]? = some (.cells x.cells.toArray 73 (0, 0)) → W.rangeAt w.heap.size 1 (cellsL x.hash)) := fun W hW j v hv => by
    rw [cell_of_row _ _ _ _ _ _ hW, List.getElem?_toArray, Nat.add_comm 1 j]
    exact hv
  have L4 := lowL_len x.kind.toNat 4
  clear h h0 hl bA rA
  go_enter Tryz.func51, Tryz.ntmps51
  go_upto_region 2 with (first | (go_at_call 48; refine (HX.out _ _ (by have := HL.out; omega) J0.out.wb.st).mono ?_; rintro e W1 ⟨rfl, s1, f1⟩; have J1 := hide (J0.out.stepN s1 f1); have G1 := hide (G0.out.stepN s1 f1); clear s1 f1) | (with_reducible refine at_list ?_; refine wpList_boxA rfl _ rfl x.cells.toArray rfl ?_))
  have c1 := G1.out.c
  have R1 := hide (RH.out _ (KP.out _ _ J1.out))
  go_wp2_with (first | (go_at_call 52; refine (HN.out _ _ (by have := HL.out; rw [List.length_append]; omega) J1.out.wb.st).mono ?_; rintro e W2 ⟨rfl, s1, f1⟩; have J2 := hide (J1.out.stepN s1 f1); clear s1 f1) | (with_reducible refine at_list ?_; refine wpLoadH _ rfl w.heap.size 1 rfl ⟨x.hash, x.hh⟩ R1.out rfl ?_))
  go_end0
  refine ⟨rfl, ?_, BK.out _ _ J2.out⟩
  have := J2.out.wb
  rw [List.append_assoc] at this
  exact this
theorem el_head (x : ByteArray) (hx : x.size ≤ 4096) {B w : World} {b g : Nat} {l : List UInt8} (h : Wg B w b g l) (hl : l.length ≤ 35184372080000) : Calls Tryz.prog 55 #[.string x, pb g] w fun e w' => e = .returned (.tuple #[]) ∧ Wb B w' b (l ++ (x.data.toList ++ [0])) ∧ Wfr w w' (pb b) := by
  have J0 := hide (Wx.start h.wb)
  have G0 := hide h
  have cg := G0.out.c
  have HL := hide (And.intro hl (show x.data.toList.length ≤ 4096 by simpa using hx))
  have HX : Hid (∀ W l', l'.length ≤ 35184372088832 → Wst W (pb b) l' → Calls Tryz.prog 56 #[pb b, .string x] W fun e w' => e = .returned (.tuple #[]) ∧ Wst w' (pb b) (l' ++ x.data.toList) ∧ Wfr W w' (pb b)) := fun W l' h1 h2 => wBytes _ _ x (.inr (by omega)) _ (by omega) h2
  have HN : Hid (∀ W l', l'.length ≤ 35184372088832 → Wst W (pb b) l' → Calls Tryz.prog 57 #[pb b, .int .u64 0] W fun e w' => e = .returned (.tuple #[]) ∧ Wst w' (pb b) (l' ++ [0]) ∧ Wfr W w' (pb b)) := fun W l' h1 h2 => by
    have := wCount (pb b) l' 0 (by unfold U64; decide) W h1 h2
    rwa [countL0] at this
  clear h hl hx
  go_enter Tryz.func55, Tryz.ntmps55
  go_upto_region 1 with (go_at_call 56; refine (HX.out _ _ (by have := HL.out; omega) J0.out.wb.st).mono ?_; rintro e W1 ⟨rfl, s1, f1⟩; have J1 := hide (J0.out.stepN s1 f1); have G1 := hide (G0.out.stepN s1 f1); clear s1 f1)
  have c1 := G1.out.c
  go_wp2_with (go_at_call 57; refine (HN.out _ _ (by have := HL.out; rw [List.length_append]; omega) J1.out.wb.st).mono ?_; rintro e W2 ⟨rfl, s1, f1⟩; have J2 := hide (J1.out.stepN s1 f1); clear s1 f1)
  go_end0
  refine ⟨rfl, ?_, J2.out.fr⟩
  have := J2.out.wb
  rw [List.append_assoc] at this
  exact this
theorem el_short (x : UInt64) {B w : World} {b g : Nat} {l : List UInt8} (h : Wg B w b g l) (hl : l.length ≤ 35184372080000) : Calls Tryz.prog 105 #[.int .u64 (x.toNat : Int), pb g] w fun e w' => e = .returned (.tuple #[]) ∧ Wb B w' b (l ++ lowL x.toNat 6) ∧ Wfr w w' (pb b) := by
  have J0 := hide (Wx.start h.wb)
  have G0 := hide h
  have cg := G0.out.c
  have HL := hide hl
  have LJ := hide (lowL_join x.toNat)
  have hx := x.toNat_lt
  generalize x.toNat = n at *
  have e1 : IntKind.u32.wrap (n : Int) = ((n % 4294967296 : Nat) : Int) := by
    rw [IntKind.wrap_u32]; omega
  have e2 : IntKind.u16.wrap ((n : Int) / 4294967296) = ((n / 4294967296 % 65536 : Nat) : Int) := by
    rw [IntKind.wrap_u16]; omega
  have HX : Hid (∀ W l', l'.length ≤ 35184372088832 → Wst W (pb b) l' → Calls Tryz.prog 48 #[pb b, .int .u32 ((n % 4294967296 : Nat) : Int)] W fun e w' => e = .returned (.tuple #[]) ∧ Wst w' (pb b) (l' ++ lowL (n % 4294967296) 4) ∧ Wfr W w' (pb b)) := fun W l' h1 h2 => wU32 _ _ _ (by omega) _ h1 h2
  have HN : Hid (∀ W l', l'.length ≤ 35184372088832 → Wst W (pb b) l' → Calls Tryz.prog 106 #[pb b, .int .u16 ((n / 4294967296 % 65536 : Nat) : Int)] W fun e w' => e = .returned (.tuple #[]) ∧ Wst w' (pb b) (l' ++ lowL (n / 4294967296 % 65536) 2) ∧ Wfr W w' (pb b)) := fun W l' h1 h2 => wU16 _ _ _ (by omega) _ h1 h2
  have L4 := lowL_len (n % 4294967296) 4
  clear h hl
  go_enter Tryz.func105, Tryz.ntmps105
  go_upto_region 1 with (go_at_call 48; refine (HX.out _ _ (by have := HL.out; omega) J0.out.wb.st).mono ?_; rintro e W1 ⟨rfl, s1, f1⟩; have J1 := hide (J0.out.stepN s1 f1); have G1 := hide (G0.out.stepN s1 f1); clear s1 f1)
  have c1 := G1.out.c
  go_wp2_with (go_at_call 106; refine (HN.out _ _ (by have := HL.out; rw [List.length_append]; omega) J1.out.wb.st).mono ?_; rintro e W2 ⟨rfl, s1, f1⟩; have J2 := hide (J1.out.stepN s1 f1); clear s1 f1)
  go_end0
  refine ⟨rfl, ?_, J2.out.fr⟩
  have := J2.out.wb
  rw [List.append_assoc, LJ.out] at this
  exact this
end
end Go.Proofs.YtkoidjaaojmcnaaGreat
