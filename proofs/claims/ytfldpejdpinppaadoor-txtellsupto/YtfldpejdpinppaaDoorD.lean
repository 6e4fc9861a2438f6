/- The contract of sha.Step: the state behind a block. -/
import Derived.Test.YtfldpejdpinppaaDoorC
namespace Go.Proofs.YtfldpejdpinppaaDoor
open Go.RowKit
open Go.Deep
/-- The package's table holds K0 .. K63. -/
def Kg (w : World) : Prop := ∀ j, j < 64 → w.cell? ⟨0, j, none⟩ = some (.int .u32 ((kk j).toNat : Int))
theorem Kg.lt {w : World} (h : Kg w) : 0 < w.heap.size := by
  have := h 0 (by omega)
  rcases Nat.lt_or_ge 0 w.heap.size with h' | h'
  · exact h'
  · have e : w.heap[0]? = none := Array.getElem?_eq_none h'
    simp [World.cell?, e] at this
theorem Kg.pos {w : World} (h : Kg w) : 0 < w.heap.size := Nat.lt_of_le_of_lt (Nat.zero_le _) h.lt
theorem Kg.below {w w' : World} {B : Nat} (h : Kg w) (hB : 0 < B) (b : Below B w w') : Kg w' := fun j hj => (b.cell (p := ⟨0, j, none⟩) hB).trans (h j hj)
theorem Kg.next {w w' : World} (h : Kg w) (b : Below w.heap.size w w') : Kg w' := h.below h.lt b
theorem Kg.drewN {w : World} (h : Kg w) (n : Nat) : Kg (w.drewN n) := h
theorem addS_at (x y : St) (j : Nat) (h : j < 8) : (addS x y).at j = x.at j + y.at j := by
  rcases j with _ | _ | _ | _ | _ | _ | _ | _ | j
  all_goals first | rfl | omega
theorem st_at (s : St) (k : Nat) (hk : k < 8) : (uc s.list)[k]? = some (.int .u32 ((s.at k).toNat : Int)) := uc_at _ _ hk
/-- The last loop's row: i sums stand. -/
def adF (s r : St) (i j : Nat) : Value := .int .u32 ((if j < i then s.at j + r.at j else r.at j).toNat : Int)
theorem adF_step (s r : St) (i j : Nat) : (if j = i then Value.int .u32 ((r.at i + s.at i).toNat : Int) else adF s r i j) = adF s r (i + 1) j := by
  unfold adF
  by_cases e : j = i
  · subst e
    rw [if_pos rfl, if_pos (by omega), UInt32.add_comm]
  · rw [if_neg e]
    by_cases e2 : j < i
    · rw [if_pos e2, if_pos (by omega)]
    · rw [if_neg e2, if_neg (by omega)]
theorem adF_at (s r : St) (i : Nat) : adF s r i i = .int .u32 ((r.at i).toNat : Int) := by
  simp [adF]
theorem adF_end (s r : St) (j : Nat) (hj : j < 8) : adF s r 8 j = .int .u32 (((addS s r).at j).toNat : Int) := by
  rw [addS_at s r j hj]
  simp [adF, hj]
theorem cells8 {w : World} {g : Nat} {t : TypeId} {s : St} (h : w.heap[g]? = some (.cells (uc s.list) t (0, 0))) :
    w.cell? ⟨g, 0, none⟩ = some (.int .u32 (s.a.toNat : Int)) ∧ w.cell? ⟨g, 1, none⟩ = some (.int .u32 (s.b.toNat : Int)) ∧ w.cell? ⟨g, 2, none⟩ = some (.int .u32 (s.c.toNat : Int)) ∧ w.cell? ⟨g, 3, none⟩ = some (.int .u32 (s.d.toNat : Int)) ∧
    w.cell? ⟨g, 4, none⟩ = some (.int .u32 (s.e.toNat : Int)) ∧ w.cell? ⟨g, 5, none⟩ = some (.int .u32 (s.f.toNat : Int)) ∧ w.cell? ⟨g, 6, none⟩ = some (.int .u32 (s.g.toNat : Int)) ∧ w.cell? ⟨g, 7, none⟩ = some (.int .u32 (s.h.toNat : Int)) :=
  ⟨cell_of_row w g 0 _ t _ h, cell_of_row w g 1 _ t _ h, cell_of_row w g 2 _ t _ h, cell_of_row w g 3 _ t _ h, cell_of_row w g 4 _ t _ h, cell_of_row w g 5 _ t _ h, cell_of_row w g 6 _ t _ h, cell_of_row w g 7 _ t _ h⟩
theorem step_mid {w w1 : World} {A B C : Obj} (x0 : (((w.alloc A).alloc B).alloc C).heap[w.heap.size]? = some A) (x2 : (((w.alloc A).alloc B).alloc C).heap[w.heap.size + 1 + 1]? = some C) (hK : Kg w) (b1 : Below (((w.alloc A).alloc B).alloc C).heap.size (((w.alloc A).alloc B).alloc C) w1) (l : List UInt32) :
    Hid ((w1.alloc (.cells (uc l) 102)).heap[w.heap.size]? = some A) ∧ Hid ((w1.alloc (.cells (uc l) 102)).heap[w.heap.size + 1 + 1]? = some C) ∧ Hid ((w1.alloc (.cells (uc l) 102)).heap[w1.heap.size]? = some (.cells (uc l) 102)) ∧ Hid (Below w.heap.size w (w1.alloc (.cells (uc l) 102))) ∧ Hid (Kg (w1.alloc (.cells (uc l) 102))) := by
  have hN : (((w.alloc A).alloc B).alloc C).heap.size = w.heap.size + 1 + 1 + 1 := by simp
  have hs := b1.size
  have B1 : Below w.heap.size w w1 := (below3 w A B C).trans (b1.mono (by omega))
  have B2 := B1.alloc B1.size (.cells (uc l) 102)
  refine ⟨(Below.heap_alloc _ _ _ (by omega)).trans ((b1.block _ (by omega)).trans x0), (Below.heap_alloc _ _ _ (by omega)).trans ((b1.block _ (by omega)).trans x2), heap_alloc_last _ _, B2, hK.next B2⟩
section
set_option maxRecDepth 10000
set_option maxHeartbeats 1000000
theorem step_any (s : St) (b : List UInt8) (hl : b.length = 64) (w : World) (hK : Kg w) : Calls Tryd.prog 62 #[.agg (uc s.list), .agg (hc b)] w fun e w' => e = .returned (.agg (uc (step s b).list)) ∧ Below w.heap.size w w' := by
  have HS := hide fun W => spread_any b hl W
  have HK := hide hK
  clear hK
  go_enter Tryd.func62, Tryd.ntmps62
  go_upto_region 1 with (first | refine wpList_boxA rfl _ rfl (uc s.list) rfl ?_ | refine wpList_boxA rfl _ rfl (hc b) rfl ?_ | refine wpList_allocA A31 rfl rfl ?_)
  obtain ⟨x0, x1, x2⟩ := blk3 w (.cells (uc s.list) 116) (.cells (hc b) 90) (.cells (uc zw8) 116)
  have X1 := hide x1
  clear x1
  go_upto_region 2 with (first | refine wpList_loadA A35 rfl _ rfl _ rfl (hc b) (by rw [hc_size, hl]) 90 (by simpa using X1.out) ?_ | (go_at_call 71; refine (HS.out _).mono ?_; rintro e w1 ⟨rfl, b1⟩) | refine wpList_allocA A66 rfl rfl ?_ | refine wpList_store_newA A66 rfl _ _ rfl _ rfl (uc (sch b 64)) (by rw [uc_size, sch_len]) (uc_one _) rfl rfl ?_)
  obtain ⟨y0, y2, y3, BB, KK⟩ := step_mid x0 x2 HK.out b1 (sch b 64)
  clear x0 x2 b1 X1 HK HS
  generalize w1.alloc (.cells (uc (sch b 64)) 102) = W2 at *
  generalize w1.heap.size = g1 at *
  obtain ⟨z0, z1, z2, z3, z4, z5, z6, z7⟩ := cells8 y0.out
  go_quiet (fail)
  clear z0 z1 z2 z3 z4 z5 z6 z7
  go_wp2
  go_loopw [6, 7, 8, 9, 10, 11, 12, 13, 37] (fun va vb vc vd ve vf vg vh vt wr => ∃ t n : Nat, t ≤ 64 ∧ vt = .int .i64 t ∧ va = .int .u32 ((rnds b s t).a.toNat : Int) ∧ vb = .int .u32 ((rnds b s t).b.toNat : Int) ∧ vc = .int .u32 ((rnds b s t).c.toNat : Int) ∧ vd = .int .u32 ((rnds b s t).d.toNat : Int) ∧ ve = .int .u32 ((rnds b s t).e.toNat : Int) ∧ vf = .int .u32 ((rnds b s t).f.toNat : Int) ∧ vg = .int .u32 ((rnds b s t).g.toNat : Int) ∧ vh = .int .u32 ((rnds b s t).h.toNat : Int) ∧ Hid (wr = W2.drewN n)) (fun _ _ _ _ _ _ _ _ vt _ => (64 - intOf vt).toNat)
  case atStart => exact ⟨0, nq, by omega, rfl, rfl, rfl, rfl, rfl, rfl, rfl, rfl, rfl, rfl⟩
  case round =>
    obtain ⟨t, n, ht, rfl, rfl, rfl, rfl, rfl, rfl, rfl, rfl, rfl, HW⟩ := hrel
    by_cases hlt : t < 64
    · have k1 : wr.cell? ⟨0, t, none⟩ = some (.int .u32 ((kk t).toNat : Int)) := by rw [HW.out]; exact KK.out t hlt
      have k2 : wr.cell? ⟨g1, t, none⟩ = some (.int .u32 ((ws b t).toNat : Int)) := by
        rw [HW.out]
        have := cell_of_row W2 g1 t _ _ _ y3.out
        rw [uc_at _ _ (by rw [sch_len]; exact hlt), sch_at b 64 t hlt] at this
        exact this
      have t0 : (0 : Int) ≤ t := by omega
      have t1 : (t : Int) < 64 := by omega
      have HE := hide (show rnds b s (t + 1) = rnd (kk t) (ws b t) (rnds b s t) from rfl)
      generalize rnds b s t = r at *
      generalize kk t = kt at *
      generalize ws b t = wt at *
      have H1 := hide fun W => turned_any r.e 6 11 25 6 11 25 rfl rfl rfl (by omega) (by omega) (by omega) (by omega) (by omega) (by omega) W
      have H2 := hide fun W => turned_any r.a 2 13 22 2 13 22 rfl rfl rfl (by omega) (by omega) (by omega) (by omega) (by omega) (by omega) W
      go_wp2
      go_quiet ((go_at_call 72; exact Calls.quiet_of_same (H1.out _)))
      go_wp2_with (go_at_call 72; refine (H2.out _).mono ?_; rintro e w3 ⟨rfl, rfl⟩)
      refine ⟨⟨t + 1, n + nq, by omega, by go_num, ?_, ?_, ?_, ?_, ?_, ?_, ?_, ?_, hide (by rw [HW.out, World.drewN_drewN])⟩, by simp [intOf]; omega⟩
      all_goals rw [HE.out]
      · rw [notX, andU, andU, xorU, andU, andU, andU, xorU, xorU, add5, addU, addU]; rfl
      · rfl
      · rfl
      · rfl
      · rw [notX, andU, andU, xorU, add5, addU]; rfl
      · rfl
      · rfl
      · rfl
    · have hte : t = 64 := by omega
      subst hte
      rw [show ((64 : Nat) : Int) = 64 from rfl]
      have HT := hide (show step s b = addS s (rnds b s 64) from rfl)
      generalize rnds b s 64 = r at *
      have Y0 : Hid (wr.rowIs w.heap.size 116 8 (fun j => .int .u32 ((s.at j).toNat : Int))) := by
        refine row_of (c := uc s.list) rfl ?_ (fun i hi => st_at s i hi)
        rw [HW.out]; exact y0.out
      have Y2 : Hid (wr.heap[w.heap.size + 1 + 1]? = some (.cells (uc zw8) 116 (0, 0))) := by
        rw [HW.out]; exact y2.out
      have B0 : Hid (Below w.heap.size w wr) := by
        rw [HW.out]; exact below_drewN BB.out n
      clear HW y0 y2 y3 BB KK
      go_wp2_with (first | refine wpList_allocA A31 rfl rfl ?_ | refine wpList_store_newA A31 rfl _ _ rfl _ rfl (uc r.list) rfl (uc_one _) rfl rfl ?_)
      have R2 : Hid ((wr.alloc (.cells (uc r.list) 116)).rowIs wr.heap.size 116 8 (adF s r 0)) := row_of (c := uc r.list) rfl (heap_alloc_last _ _) (fun i hi => by rw [st_at r i hi]; simp [adF])
      have R0 := hide (Y0.out.alloc (.cells (uc r.list) 116))
      have R1 := hide ((Below.heap_alloc _ (.cells (uc r.list) 116) _ (lt_heap Y2.out)).trans Y2.out)
      have BB := hide (B0.out.alloc B0.out.size (.cells (uc r.list) 116))
      have n1 := Y0.out.lt
      have n2 := lt_heap Y2.out
      clear Y0 Y2 B0
      generalize wr.alloc (.cells (uc r.list) 116) = W3 at *
      generalize wr.heap.size = g2 at *
      go_loopw [97] (fun c wx => ∃ i : Nat, i ≤ 8 ∧ c = .int .i64 i ∧ Hid (wx.rowIs w.heap.size 116 8 (fun j => .int .u32 ((s.at j).toNat : Int))) ∧ Hid (wx.heap[w.heap.size + 1 + 1]? = some (.cells (uc zw8) 116 (0, 0))) ∧ Hid (wx.rowIs g2 116 8 (adF s r i)) ∧ Hid (Below w.heap.size w wx)) (fun c _ => (8 - intOf c).toNat)
      case atStart => exact ⟨0, by omega, rfl, R0, R1, R2, BB⟩
      case round =>
        clear R0 R1 R2 BB
        obtain ⟨i, hi, rfl, r0, r1, r2, bb⟩ := hrel
        by_cases hi8 : i < 8
        · have c0 := r0.out.cell hi8
          have c2 := r2.out.cell hi8
          have f2 := r2.out.frozen i
          have t0 : (0 : Int) ≤ i := by omega
          have t1 : (i : Int) < 8 := by omega
          rw [adF_at] at c2
          go_wp2
          go_region
          all_goals go_wp2
          all_goals
            refine ⟨⟨i + 1, by omega, by go_num, hide ((r0.out.setOther (by simp; omega) _).drew), hide ((blk_setCell_other _ _ _ _ (by simp; omega)).trans r1.out), hide (((r2.out.set _ _).congr (fun j hj => ?_)).drew), hide ((bb.out.setCell (by simp; omega) _).drew)⟩, by simp [intOf]; omega⟩
            rw [addU]
            exact adF_step s r i j
        · have hie : i = 8 := by omega
          subst hie
          have H2 : wr.heap[g2]? = some (.cells (uc (addS s r).list) 116 (0, 0)) := of_row rfl r2.out (fun i hi => by rw [st_at _ i hi, adF_end s r i hi])
          go_wp2_with (first | refine wpList_loadA A31 rfl _ rfl _ rfl (uc (addS s r).list) rfl 116 H2 ?_ | refine wpList_storeA A31 rfl _ _ rfl _ (uc (addS s r).list) rfl (uc_one _) rfl rfl (uc zw8) (by rw [uc_size, zw8_len]) 116 r1.out ?_)
          exact bodyPost_ret (v := .agg (uc (addS s r).list)) (resA A31 Tryd.results62 _ _ (w.heap.size + 1 + 1) 116 _ rfl rfl (setRow_heap _ _ _ _ _ _ r1.out)) rfl ⟨by rw [HT.out], below_setRow bb.out (by omega) _⟩
end
end Go.Proofs.YtfldpejdpinppaaDoor
