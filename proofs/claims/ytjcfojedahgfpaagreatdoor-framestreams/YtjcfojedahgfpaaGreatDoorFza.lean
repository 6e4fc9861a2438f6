/- FrameStreams' walk. -/
import Derived.Test.YtjcfojedahgfpaaGreatDoorFy
namespace Go.Proofs.YtjcfojedahgfpaaGreatDoor
open Go.RowKit
open Go.Deep
/-- The cells of a part. -/
def pc3 (t : ByteArray) (a : Int) (c : Bool) : Array Value := #[.string t, .int .i64 a, .bool c]
def pz3 : Array Value := #[.string ⟨#[]⟩, .int .i64 0, .bool false]
theorem AP : Arr 30 3 pz3 := ⟨.inr ⟨_, Tryz.underlying30⟩, by kernel_rfl, fun w => by kernel_rfl, fun w => by kernel_rfl, rfl⟩
theorem pc3_one (t : ByteArray) (a : Int) (c : Bool) : (pc3 t a c).all (·.oneCell') = true := by
  have e1 : ∀ k y, (Value.int k y).oneCell' = true := fun _ _ => rfl
  have e2 : ∀ s, (Value.string s).oneCell' = true := fun _ => rfl
  have e3 : ∀ s, (Value.bool s).oneCell' = true := fun _ => rfl
  simp [pc3, e1, e2, e3]
theorem pc3_cells {W : World} {g : Nat} {t : ByteArray} {a : Int} {c : Bool} (h : W.heap[g]? = some (.cells (pc3 t a c) 30 (0, 0))) : W.cell? ⟨g, 0, none⟩ = some (.string t) ∧ W.cell? ⟨g, 1, none⟩ = some (.int .i64 a) ∧ W.cell? ⟨g, 2, none⟩ = some (.bool c) :=
  ⟨by rw [cell_of_row W g 0 _ _ _ h]; rfl, by rw [cell_of_row W g 1 _ _ _ h]; rfl, by rw [cell_of_row W g 2 _ _ _ h]; rfl⟩
/-- A list of parts that comes in. -/
def LP (w : World) (v : Value) (L : List (ByteArray × Int × Bool)) : Prop :=
  ∃ ao cap, v = .slice ao L.length cap ∧ (L.length ≤ cap ∧ cap ≤ 9223372036854775807) ∧ ∀ i (hi : i < L.length), L[i].1.size ≤ maxLen ∧ ∃ g off, ao = some ⟨g, off, none⟩ ∧ g < w.heap.size ∧ w.rangeAt g (off + i * 3) (pc3 L[i].1 L[i].2.1 L[i].2.2).toList
theorem range_at {w W : World} {g off : Nat} {cs : List Value} (hr : w.rangeAt g off cs) (hb : Below w.heap.size w W) (hg : g < w.heap.size) : W.rangeAt g off cs := fun j v hv => by
  rw [← hr j v hv]
  exact hb.cell (p := ⟨g, off + j, none⟩) hg
section
variable {Q : List (Nat × Obj)} {B W W' : World} {b : Nat} {v : Value} {x : Sq}
/-- A row more of others'. -/
theorem Sm.add (h : Sm Q B W b v x) (o : Obj) : Sm ((W.heap.size, o) :: Q) B (W.alloc o) b v x := by
  have h2 := h.next ((Below.refl _ _).alloc (Nat.le_refl _) o)
  refine h2.with fun p hp => ?_
  rcases List.mem_cons.1 hp with rfl | hp
  · refine ⟨heap_alloc_last _ _, ?_, fun e => ?_⟩
    · have := h.lt
      simp only
      omega
    · have := h.om.lt _ e
      simp only at this
      omega
  · exact h2.keep p hp
theorem Sm.tail {p : Nat × Obj} (h : Sm (p :: Q) B W b v x) : Sm Q B W b v x := h.with fun q hq => h.keep q (List.mem_cons_of_mem _ hq)
theorem Sm.hd {p : Nat × Obj} (h : Sm (p :: Q) B W b v x) : W.heap[p.1]? = some p.2 := (h.keep p (List.mem_cons_self ..)).1
/-- Another's row is stored to. -/
theorem Sm.swap {g : Nat} {c : Array Value} {t : TypeId} (h : Sm ((g, .cells c t (0, 0)) :: Q) B W b v x) (hg : B.heap.size ≤ g) (hq : ∀ p ∈ Q, p.1 ≠ g) (c' : Array Value) : Sm ((g, .cells c' t (0, 0)) :: Q) B (W.setRow g c') b v x := by
  obtain ⟨k1, k2, k3⟩ := h.keep _ (List.mem_cons_self ..)
  have h2 := h.tail.putRow g hg k2 (fun k hk e => k3 (hk.trans (congrArg some e))) hq c'
  refine h2.with fun p hp => ?_
  rcases List.mem_cons.1 hp with rfl | hp
  · exact ⟨setRow_heap _ _ _ _ _ _ k1, k2, k3⟩
  · exact h2.keep p hp
end
theorem Sm.last {B W : World} {b : Nat} {v : Value} {x : Sq} {p q r : Nat × Obj} (h : Sm [p, q, r] B W b v x) : Sm [r, q] B W b v x :=
  h.with fun s hs => h.keep s (by
    simp only [List.mem_cons, List.not_mem_nil, or_false] at hs ⊢
    rcases hs with rfl | rfl
    · exact .inr (.inr rfl)
    · exact .inr (.inl rfl))
theorem Sm.third {B W : World} {b : Nat} {v : Value} {x : Sq} {p q r s : Nat × Obj} (h : Sm [p, q, r, s] B W b v x) : Sm [r, q, s] B W b v x :=
  h.with fun y hs => h.keep y (by
    simp only [List.mem_cons, List.not_mem_nil, or_false] at hs ⊢
    rcases hs with rfl | rfl | rfl
    · exact .inr (.inr (.inl rfl))
    · exact .inr (.inl rfl)
    · exact .inr (.inr (.inr rfl)))
theorem Sm.ends {B W : World} {b : Nat} {v : Value} {x : Sq} {p q r : Nat × Obj} (h : Sm [p, q, r] B W b v x) : Sm [p, r] B W b v x :=
  h.with fun y hs => h.keep y (by
    simp only [List.mem_cons, List.not_mem_nil, or_false] at hs ⊢
    rcases hs with rfl | rfl
    · exact .inl rfl
    · exact .inr (.inr rfl))
theorem Sm.flip {B W : World} {b : Nat} {v : Value} {x : Sq} {p q : Nat × Obj} (h : Sm [p, q] B W b v x) : Sm [q, p] B W b v x :=
  h.with fun s hs => h.keep s (by
    simp only [List.mem_cons, List.not_mem_nil, or_false] at hs ⊢
    exact hs.symm)
theorem Sq.next_ok (x : Sq) : x.next.1.magic = x.magic := by
  unfold Sq.next
  simp only
  (repeat' split) <;> rfl
theorem wpList_loadG {t : TypeId} {n : Nat} {z : Array Value} {w : World} {ops : Array Oper} {rest : List Oper} {o : Oper} {a : Act} {Q : Exit → Act → World → Prop} (A : Arr t n z) (x : Operand) (ho : o.op = .load t x) (g : Nat) (hx : a.eval x = .pointer (some ⟨g, 0, none⟩)) (c : Array Value) (hn : c.size = n) (t' : TypeId) (hg : w.heap[g]? = some (.cells c t' (0, 0))) (hw : Region.wanted o (yielded ops a.tmps) = true)
    (h : wpList Tryz.prog ops Q rest (a.put o.dst (.agg c)) w) : wpList Tryz.prog ops Q (o :: rest) a w := by
  refine wpList_step fun K hK => ?_
  rw [if_pos hw]
  unfold Oper.wp execOp
  simp only [ho, hx, Sem.run_bind, ld_row A hn hg, Result.andThen_ok, Sem.run_pure]
  exact hK _ _ h
theorem Sq.feed_ok (x : Sq) (l : List UInt8) : (x.feed l).1.magic = x.magic := by
  unfold Sq.feed
  split <;> rfl
abbrev oM (x : Sq) : Obj := .cells (m4 x) 28 (0, 0)
abbrev oF (c p : List UInt8) : Obj := .cells (fr2 c p) 37 (0, 0)
abbrev oP (t : ByteArray) (a : Int) (c : Bool) : Obj := .cells (pc3 t a c) 30 (0, 0)
section
set_option maxRecDepth 10000
set_option maxHeartbeats 4000000
theorem frameStreams_walk (m : Nat) (hm : m < 4294967296) (vp : Value) (L : List (ByteArray × Int × Bool)) (w : World) (hL : LP w vp L) (hK : Kg w) : Calls Tryz.prog 3 #[.int .u32 (m : Int), vp] w fun e w' => e = .returned (.bool true) ∧ Below w.heap.size w w' := by
  have KW : Hid (∀ W, Below w.heap.size w W → Kg W) := fun W h => hK.next h
  have HL := hide hL
  obtain ⟨ao, cap, rfl, hcap, hat⟩ := hL
  have HAT := hide hat
  have HCAP := hide hcap
  clear hK hat hcap
  have J1 := hide (Sm.new w m hm)
  go_enter Tryz.func3, Tryz.ntmps3
  go_upto_region 2 with (go_at_call 4; refine (fnew_any m _).mono ?_; rintro e w1 ⟨rfl, rfl⟩)
  generalize w.alloc (.cells (sc4 ⟨m, [], 0, 0⟩ (.slice none 0 0)) 46) = W1 at *
  have HS0 : Hid (w.heap.size ≤ W1.heap.size) := J1.out.bel.size
  generalize hgb : w.heap.size = gb at J1 ⊢
  have HGB := hide hgb
  clear hgb
  go_upto_region 4 with (go_at_call 5; refine (awake8_any _ (KW.out _ J1.out.bel)).mono ?_; rintro e w2 ⟨rfl, b2⟩; have J2 := hide (J1.out.next b2); clear b2)
  have J4 := hide (J2.out.add (oM ⟨m, [], 0, 0⟩))
  have GG : Hid (w.heap.size ≤ w2.heap.size) := J2.out.bel.size
  clear J1 J2
  go_upto_region 5 with (first | refine wpList_allocA AM rfl rfl ?_ | refine wpList_store_newA AM rfl _ _ rfl _ rfl (m4 ⟨m, [], 0, 0⟩) rfl (m4_one _) rfl rfl ?_)
  generalize w2.alloc (.cells (m4 ⟨m, [], 0, 0⟩) 28) = W4 at *
  generalize w2.heap.size = g6 at *
  go_wp2
  go_loopw [33] (fun i wr => ∃ (k : Nat) (v : Value) (x : Sq), k ≤ L.length ∧ i = .int .i64 (k : Int) ∧ Hid (Sm [(g6, oM x)] w wr gb v x)) (fun i _ => (L.length - intOf i).toNat)
  case atStart => exact ⟨0, _, _, Nat.zero_le _, rfl, J4⟩
  case round =>
    clear J4
    obtain ⟨k, v, x, hk, rfl, J⟩ := hrel
    by_cases hlt : k < L.length
    · have h1 : (k : Int) < (L.length : Int) := by omega
      obtain ⟨hsz, g, off, rfl, hg, hr⟩ := HAT.out k hlt
      have R0 := hide (range_at hr J.out.bel hg)
      generalize L[k] = part at *
      obtain ⟨t, asks, cp⟩ := part
      simp only at hsz R0
      clear hr hg
      have KK := hide (And.intro (show k + 1 ≤ L.length by omega) (show ((L.length : Int) - ((k : Int) + 1)).toNat < ((L.length : Int) - (k : Int)).toNat by omega))
      go_upto_region 8 with (first | refine wpList_load_mid rfl 30 _ rfl g (off + k * 3) rfl (pc3 t asks cp).toList _ R0.out Tryz.underlying30 rfl (by kernel_rfl) ?_ | refine wpList_allocA AP rfl rfl ?_ | refine wpList_store_newA AP rfl _ _ rfl _ rfl (pc3 t asks cp) rfl (pc3_one _ _ _) rfl rfl ?_)
      simp only [Act.put, List.setIfInBounds_toArray, List.set_cons_zero, List.set_cons_succ]
      have J8 := hide (J.out.add (oP t asks cp))
      have N8 : Hid (wr.heap.size ≠ g6) := fun e => by
        have := lt_heap J.out.hd
        simp only at this
        omega
      have HS8 : Hid (w.heap.size ≤ wr.heap.size) := J.out.bel.size
      clear J R0
      rw [show (Obj.cells (pc3 t asks cp) 30 (0, 0)) = oP t asks cp from rfl] at *
      generalize wr.alloc (oP t asks cp) = W8 at *
      generalize wr.heap.size = g8 at *
      have x0 := (pc3_cells J8.out.hd).1
      have HF := hide (feed_any J8.out t hsz)
      have HRF := hide fun W => rfeed_any x J8.out.long t hsz W
      have HFM := hide (Sq.feed_ok x t.data.toList)
      generalize hxf : x.feed t.data.toList = XF at *
      obtain ⟨x1, nf⟩ := XF
      simp only at HF HRF HFM
      clear hxf
      go_upto_region 9 with (go_at_call 6; refine HF.out.mono ?_; rintro e w9 ⟨rfl, v9, j9⟩; have J9 := hide j9; clear j9)
      clear x0 HF
      have x0 := (pc3_cells J9.out.hd).1
      go_upto_region 10 with (first | refine wpList_loadA AM rfl _ rfl g6 rfl (m4 x) rfl 28 J9.out.tail.hd ?_ | (go_at_call 7; refine (HRF.out _).mono ?_; rintro e w10 ⟨rfl, b10⟩; have J10 := hide (J9.out.next b10); clear b10) | refine wpList_allocA AM rfl rfl ?_ | refine wpList_store_newA AM rfl _ _ rfl _ rfl (m4 x1) rfl (m4_one _) rfl rfl ?_)
      have K10 := hide (J10.out.add (oM x1))
      clear J9 J10 x0 HRF
      rw [show (Obj.cells (m4 x1) 28 (0, 0)) = oM x1 from rfl] at *
      generalize w10.alloc (oM x1) = W10 at *
      generalize w10.heap.size = g10 at *
      have J11 := hide (K10.out.last.swap (t := 28) GG.out (fun p hp => by rw [List.mem_singleton] at hp; subst hp; exact N8.out) (m4 x1))
      go_upto_region 11 with (first | refine wpList_loadA AM rfl _ rfl g10 rfl (m4 x1) rfl 28 K10.out.hd ?_ | refine wpList_storeA AM rfl _ _ rfl g6 (m4 x1) rfl (m4_one _) rfl rfl (m4 x) rfl 28 K10.out.last.hd ?_)
      clear K10
      generalize W10.setRow g6 (m4 x1) = W11 at *
      have HST := hide (stands_any J11.out)
      go_upto_region 13 with (first | refine wpList_loadG AM _ (by rfl) g6 (by rfl) (m4 x1) rfl 28 J11.out.hd (by rfl) ?_ | (go_at_call 8; refine HST.out.mono ?_; rintro e w12 ⟨rfl, b12⟩; have J12 := hide (J11.out.next b12); clear b12))
      clear J11 HST HAT HL
      have yc := (pc3_cells J12.out.tail.hd).2.2
      obtain ⟨n, hn⟩ : ∃ n : Nat, min (max asks 0) 20 = (n : Int) := ⟨(min (max asks 0) 20).toNat, by omega⟩
      have hn20 : (n : Int) ≤ 20 := by omega
      cases cp
      case' false =>
        obtain ⟨cq, hcq⟩ : ∃ cq : Bool, cq = false := ⟨_, rfl⟩
        have J19 := hide J12.out
        have ya := (pc3_cells J19.out.tail.hd).2.1
        go_wp2
        clear J12 yc
        generalize w12 = W19 at *
      case' true =>
        obtain ⟨cq, hcq⟩ : ∃ cq : Bool, cq = true := ⟨_, rfl⟩
        have HCL := hide (clone_any J12.out)
        go_upto_region 15 with (go_at_call 9; refine HCL.out.mono ?_; rintro e w14 ⟨b14, v14, rfl, j14⟩; have JC := hide j14; have J14 := hide (J12.out.next j14.bel); clear j14)
        clear yc HCL
        have HST := hide (stands_any JC.out)
        go_upto_region 17 with (first | refine wpList_loadG AM _ (by rfl) g6 (by rfl) (m4 x1) rfl 28 J14.out.hd (by rfl) ?_ | (go_at_call 8; refine HST.out.mono ?_; rintro e w15 ⟨rfl, b15⟩; have JD := hide (JC.out.next b15); clear b15))
        have HFD := hide (feed_any JD.out ⟨#[111, 116, 104, 101, 114, 32, 98, 121, 116, 101, 115]⟩ (by unfold maxLen; decide))
        clear JC HST J14
        go_upto_region 18 with (go_at_call 6; refine HFD.out.mono ?_; rintro e w17 ⟨rfl, v17, j17⟩; have JE := hide j17; have J17 := hide (J12.out.next j17.bel); clear j17)
        have HNC := hide (next_any JE.out (KW.out _ J17.out.bel))
        clear JD HFD
        go_wp2_with (go_at_call 10; refine HNC.out.mono ?_; rintro e W19 ⟨rfl, v18, j18⟩; have J19 := hide (J12.out.next j18.bel); have ya := (pc3_cells J19.out.tail.hd).2.1; clear j18)
        clear JE HNC J17 J12
      all_goals
        clear ya hn
        rw [← hcq] at J19
        clear hcq
        go_loopw [78] (fun i wr => ∃ (j : Nat) (v : Value) (x : Sq), j ≤ n ∧ i = .int .i64 (j : Int) ∧ Hid (Sm [(g6, oM x), (g8, oP t asks cq)] w wr gb v x)) (fun i _ => (n - intOf i).toNat)
        case atStart => exact ⟨0, _, _, Nat.zero_le _, rfl, J19⟩
        case round =>
          clear J19
          obtain ⟨j, vj, xj, hj, rfl, J⟩ := hrel
          by_cases hjn : j < n
          · have hj1 : (j : Int) < (n : Int) := by omega
            have JJ := hide (And.intro (show j + 1 ≤ n by omega) (show ((n : Int) - ((j : Int) + 1)).toNat < ((n : Int) - (j : Int)).toNat by omega))
            have HNX := hide (next_any J.out (KW.out _ J.out.bel))
            have HRN := hide fun W => rnext_any xj J.out.mag J.out.long W
            unfold nvals at HRN
            unfold Nx.vals at HNX
            generalize xj.next = XN at *
            obtain ⟨x2, ne, nok, nc, np⟩ := XN
            simp only at HNX HRN
            go_upto_region 22 with (first | (go_at_call 10; refine HNX.out.mono ?_; rintro e w21 ⟨rfl, v21, j21⟩; have J21 := hide j21; clear j21) | refine wpList_allocA AF rfl rfl ?_ | refine wpList_store_newA AF rfl _ _ rfl _ rfl (fr2 nc np) rfl (fr2_one _ _) rfl rfl ?_)
            have K21 := hide (J21.out.add (oF nc np))
            have N13 : Hid (w21.heap.size ≠ g6) := fun e => by
              have := lt_heap J21.out.hd
              simp only at this
              omega
            clear J21 J HNX
            rw [show (Obj.cells (fr2 nc np) 37 (0, 0)) = oF nc np from rfl] at *
            generalize w21.alloc (oF nc np) = W21 at *
            generalize w21.heap.size = g13 at *
            go_upto_region 23 with (first | refine wpList_loadA AM rfl _ rfl g6 rfl (m4 xj) rfl 28 K21.out.tail.hd ?_ | (go_at_call 11; refine (HRN.out _).mono ?_; rintro e w22 ⟨rfl, b22⟩; have J22 := hide (K21.out.next b22); clear b22) | refine wpList_allocA AM rfl rfl ?_ | refine wpList_store_newA AM rfl _ _ rfl _ rfl (m4 x2) rfl (m4_one _) rfl rfl ?_)
            have K22 := hide (J22.out.add (oM x2))
            clear J22 K21 HRN
            rw [show (Obj.cells (m4 x2) 28 (0, 0)) = oM x2 from rfl] at *
            generalize w22.alloc (oM x2) = W22 at *
            generalize w22.heap.size = g16 at *
            have J23 := hide (K22.out.third.swap (t := 28) GG.out (fun p hp => by
              simp only [List.mem_cons, List.not_mem_nil, or_false] at hp
              rcases hp with rfl | rfl
              · exact N13.out
              · exact N8.out) (m4 x2))
            go_upto_region 24 with (first | refine wpList_loadA AM rfl _ rfl g16 rfl (m4 x2) rfl 28 K22.out.hd ?_ | refine wpList_storeA AM rfl _ _ rfl g6 (m4 x2) rfl (m4_one _) rfl rfl (m4 xj) rfl 28 K22.out.third.hd ?_)
            clear K22 N13
            generalize W22.setRow g6 (m4 x2) = W23 at *
            have HST := hide (stands_any J23.out)
            have RF := hide J23.out.tail.hd
            have z0 : W23.cell? ⟨g13, 0, none⟩ = some (.string (txt nc)) := by rw [cell_of_row W23 g13 0 _ _ _ RF.out]; rfl
            have z1 : W23.cell? ⟨g13, 1, none⟩ = some (.string (txt np)) := by rw [cell_of_row W23 g13 1 _ _ _ RF.out]; rfl
            go_wp2_with (first | refine wpList_loadG AM _ (by rfl) g6 (by rfl) (m4 x2) rfl 28 J23.out.hd (by rfl) ?_ | (go_at_call 8; refine HST.out.mono ?_; rintro e w24 ⟨rfl, b24⟩; have J24 := hide (J23.out.next b24).ends; clear b24))
            go_roundw
            case rel => exact ⟨j + 1, _, _, JJ.out.1, by go_num, J24⟩
            case measure => exact JJ.out.2
          · have hj1 : ¬ (j : Int) < (n : Int) := by omega
            have e1 : IntKind.i64.wrap ((k : Int) + 1) = (k : Int) + 1 := wrapI _ (by omega) (by have := HCAP.out.1; have := HCAP.out.2; have := KK.out.1; omega)
            go_wp2
            go_roundw
            case rel => exact ⟨k + 1, _, _, KK.out.1, by go_num, J.out.with fun p hp => J.out.keep p (by rw [List.mem_singleton] at hp; rw [hp]; exact List.mem_cons_self ..)⟩
            case measure => exact KK.out.2
    · have h1 : ¬ (k : Int) < (L.length : Int) := by omega
      go_wp2
      go_ret
      exact ⟨rfl, J.out.bel⟩
end
end Go.Proofs.YtjcfojedahgfpaaGreatDoor
