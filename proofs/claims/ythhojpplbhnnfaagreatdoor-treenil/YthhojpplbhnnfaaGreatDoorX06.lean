/- The document's step: the contract of its Step. The document's sums: the contract of its Sum. The sum of three letters, and awake. -/
import Derived.Test.YthhojpplbhnnfaaGreatDoorX05
namespace Go.Proofs.YthhojpplbhnnfaaGreatDoor
open Go.RowKit
open Go.Deep
section
set_option maxRecDepth 10000
set_option maxHeartbeats 1000000
theorem rstep_any (s : St) (b : List UInt8) (hl : b.length = 64) (w : World) : Calls Tryz.prog 197 #[.agg (uc s.list), .agg (hc b)] w fun e w' => e = .returned (.agg (uc (step s b).list)) ∧ Below w.heap.size w w' := by
  have HC := hide fun W => constants_any W
  go_enter Tryz.func197, Tryz.ntmps197
  go_upto_region 3 with (first | refine wpList_boxA rfl _ rfl (uc s.list) rfl ?_ | refine wpList_boxA rfl _ rfl (hc b) rfl ?_ | refine wpList_allocA A30 rfl rfl ?_ | (go_at_call 237; refine (HC.out _).mono ?_; rintro e w1 ⟨rfl, b1⟩) | refine wpList_allocA A66 rfl rfl ?_ | refine wpList_buildA A66 rfl rfl ?_ | refine wpList_store_newA A66 rfl _ _ rfl _ rfl (uc kL) (by rw [uc_size, kL_len]) (uc_one _) rfl rfl ?_ | refine wpList_store_newA A66 rfl _ _ rfl _ rfl (uc zw64) (by rw [uc_size, zw64_len]) (uc_one _) rfl rfl ?_)
  go_wp2
  obtain ⟨y0, y1, y2, y3, y4, BB, hg0⟩ := mid2 (D := .cells (uc kL) 259) (E := .cells (uc zw64) 259) b1
  have hg := hg0.out
  clear b1 HC hg0
  generalize (w1.alloc (.cells (uc kL) 259)).alloc (.cells (uc zw64) 259) = W2 at *
  generalize w1.heap.size = g1 at *
  have R1 : Hid (W2.rowIs (w.heap.size + 1) 210 64 (fun i => .int .u8 (by8 b i : Int))) := row_of (by rw [hc_size, hl]) y1.out (fun i hi => hc_at b i (by omega))
  have R4 : Hid (W2.rowIs (g1 + 1) 259 64 (sqF b 0)) := row_of (by rw [uc_size, zw64_len]) y4.out (fun i hi => by
    rw [uc_at _ _ (by rw [zw64_len]; omega), zw64, List.getD_eq_getElem?_getD, List.getElem?_replicate, if_pos hi]
    simp [sqF])
  clear y1 y4
  go_loopw [7, 8, 9] (fun c _ _ wr => ∃ i : Nat, i ≤ 64 ∧ c = .int .i64 i ∧ Hid (wr.heap[w.heap.size]? = some (.cells (uc s.list) 207 (0, 0))) ∧ Hid (wr.rowIs (w.heap.size + 1) 210 64 (fun i => .int .u8 (by8 b i : Int))) ∧ Hid (wr.heap[w.heap.size + 1 + 1]? = some (.cells (uc zw8) 207 (0, 0))) ∧ Hid (wr.heap[g1]? = some (.cells (uc kL) 259 (0, 0))) ∧ Hid (wr.rowIs (g1 + 1) 259 64 (sqF b i)) ∧ Hid (Below w.heap.size w wr)) (fun c _ _ _ => (64 - intOf c).toNat)
  case atStart => exact ⟨0, by omega, rfl, y0, R1, y2, y3, R4, BB⟩
  case round =>
    clear y0 R1 y2 y3 R4 BB
    obtain ⟨i, hi, rfl, r0, r1, r2, r3, r4, bb⟩ := hrel
    by_cases hlt : i < 64
    · by_cases h16 : i < 16
      · have c0 := r1.out.cell (show 4 * i < 64 by omega)
        have c1 := r1.out.cell (show 4 * i + 1 < 64 by omega)
        have c2 := r1.out.cell (show 4 * i + 2 < 64 by omega)
        have c3 := r1.out.cell (show 4 * i + 3 < 64 by omega)
        have f4 := r4.out.frozen i
        have c4 := r4.out.cell hlt
        have e0 : (4 * (i : Int)).toNat = 4 * i := by omega
        have e1 : (4 * (i : Int) + 1).toNat = 4 * i + 1 := by omega
        have e2 : (4 * (i : Int) + 2).toNat = 4 * i + 2 := by omega
        have e3 : (4 * (i : Int) + 3).toNat = 4 * i + 3 := by omega
        have q0 : IntKind.i64.wrap (4 * (i : Int)) = 4 * i := wrapI _ (by omega) (by omega)
        have q1 : IntKind.i64.wrap (4 * (i : Int) + 1) = 4 * i + 1 := wrapI _ (by omega) (by omega)
        have q2 : IntKind.i64.wrap (4 * (i : Int) + 2) = 4 * i + 2 := wrapI _ (by omega) (by omega)
        have q3 : IntKind.i64.wrap (4 * (i : Int) + 3) = 4 * i + 3 := wrapI _ (by omega) (by omega)
        have a0 : (0 : Int) ≤ i := by omega
        have a1 : (i : Int) < 64 := by omega
        have a2 : (0 : Int) ≤ 4 * i := by omega
        have a3 : 4 * (i : Int) < 64 := by omega
        have a4 : (0 : Int) ≤ 4 * i + 1 := by omega
        have a5 : 4 * (i : Int) + 1 < 64 := by omega
        have a6 : (0 : Int) ≤ 4 * i + 2 := by omega
        have a7 : 4 * (i : Int) + 2 < 64 := by omega
        have a8 : (0 : Int) ≤ 4 * i + 3 := by omega
        have a9 : 4 * (i : Int) + 3 < 64 := by omega
        have n1 : ¬ g1 + 1 = w.heap.size + 1 := by omega
        go_wp2
        go_region_held3 (fun w' => w'.cell? ⟨w.heap.size + 1, 4 * i, none⟩ = some (.int .u8 (by8 b (4 * i) : Int)) ∧ w'.cell? ⟨w.heap.size + 1, 4 * i + 1, none⟩ = some (.int .u8 (by8 b (4 * i + 1) : Int)) ∧ w'.cell? ⟨w.heap.size + 1, 4 * i + 2, none⟩ = some (.int .u8 (by8 b (4 * i + 2) : Int)) ∧ w'.cell? ⟨w.heap.size + 1, 4 * i + 3, none⟩ = some (.int .u8 (by8 b (4 * i + 3) : Int))) (first | (refine ⟨?_, ?_, ?_, ?_⟩ <;> (rw [cell_set_far_drew _ _ _ _ _ _ (by omega)]; assumption)) | go_keep) (fail)
        all_goals go_wp2
        all_goals
          refine ⟨⟨i + 1, by omega, by go_num, hide ((blk_setCell_other _ _ _ _ (by simp; omega)).trans r0.out), hide ((r1.out.setOther (by simp; omega) _).drew), hide ((blk_setCell_other _ _ _ _ (by simp; omega)).trans r2.out), hide ((blk_setCell_other _ _ _ _ (by simp)).trans r3.out), hide (((r4.out.set _ _).congr (fun j hj => ?_)).drew), hide ((bb.out.setCell (by simp; omega) _).drew)⟩, by simp [intOf]; omega⟩
          rw [word_or, ← ws_low b i h16]
          exact sq_step b i j
      · have c15 := r4.out.cell (show i - 15 < 64 by omega)
        have c2 := r4.out.cell (show i - 2 < 64 by omega)
        have c7 := r4.out.cell (show i - 7 < 64 by omega)
        have c16 := r4.out.cell (show i - 16 < 64 by omega)
        have f4 := r4.out.frozen i
        have ci := r4.out.cell hlt
        rw [sqF_at b _ _ (by omega)] at c15 c2 c7 c16
        have e15 : ((i : Int) - 15).toNat = i - 15 := by omega
        have e2 : ((i : Int) - 2).toNat = i - 2 := by omega
        have e7 : ((i : Int) - 7).toNat = i - 7 := by omega
        have e16 : ((i : Int) - 16).toNat = i - 16 := by omega
        have q15 : IntKind.i64.wrap ((i : Int) - 15) = i - 15 := wrapI _ (by omega) (by omega)
        have q2 : IntKind.i64.wrap ((i : Int) - 2) = i - 2 := wrapI _ (by omega) (by omega)
        have q7 : IntKind.i64.wrap ((i : Int) - 7) = i - 7 := wrapI _ (by omega) (by omega)
        have q16 : IntKind.i64.wrap ((i : Int) - 16) = i - 16 := wrapI _ (by omega) (by omega)
        have a0 : (0 : Int) ≤ i := by omega
        have a1 : (i : Int) < 64 := by omega
        have a2 : (0 : Int) ≤ (i : Int) - 15 := by omega
        have a3 : (i : Int) - 15 < 64 := by omega
        have a4 : (0 : Int) ≤ (i : Int) - 2 := by omega
        have a5 : (i : Int) - 2 < 64 := by omega
        have a6 : (0 : Int) ≤ (i : Int) - 7 := by omega
        have a7 : (i : Int) - 7 < 64 := by omega
        have a8 : (0 : Int) ≤ (i : Int) - 16 := by omega
        have a9 : (i : Int) - 16 < 64 := by omega
        have h16' : ¬ (i : Int) < 16 := by omega
        have l7 : (7 : Int) ≤ i := by omega
        have l15 : (15 : Int) ≤ i := by omega
        have l2 : (2 : Int) ≤ i := by omega
        have l16 : (16 : Int) ≤ i := by omega
        have W := hide (ws_high b i (by omega))
        generalize ws b (i - 15) = x15 at *
        generalize ws b (i - 2) = x2 at *
        generalize ws b (i - 7) = x7 at *
        generalize ws b (i - 16) = x16 at *
        have H17 := hide fun W => turn_any x2 17 17 rfl (by omega) (by omega) W
        have H19 := hide fun W => turn_any x2 19 19 rfl (by omega) (by omega) W
        have H7 := hide fun W => turn_any x15 7 7 rfl (by omega) (by omega) W
        have H18 := hide fun W => turn_any x15 18 18 rfl (by omega) (by omega) W
        have i16 : i - 16 ≠ i := by omega
        have i7 : i - 7 ≠ i := by omega
        go_wp2
        go_quiet (fail)
        go_wp2
        go_region_held3 (fun w' => w'.cell? ⟨g1 + 1, i - 7, none⟩ = some (.int .u32 (x7.toNat : Int)) ∧ w'.cell? ⟨g1 + 1, i - 16, none⟩ = some (.int .u32 (x16.toNat : Int))) (first | (refine ⟨?_, ?_⟩ <;> (rw [cell_set_ne _ _ _ _ _ (by omega)]; assumption)) | go_keep) (first | (go_at_call_of 238 (Value.int .i64 17); refine (H17.out _).mono ?_; rintro e w3 ⟨rfl, n3, rfl⟩) | (go_at_call_of 238 (Value.int .i64 19); refine (H19.out _).mono ?_; rintro e w3 ⟨rfl, n4, rfl⟩) | (go_at_call_of 238 (Value.int .i64 7); refine (H7.out _).mono ?_; rintro e w3 ⟨rfl, n5, rfl⟩) | (go_at_call_of 238 (Value.int .i64 18); refine (H18.out _).mono ?_; rintro e w3 ⟨rfl, n6, rfl⟩))
        all_goals go_wp2
        all_goals
          refine ⟨⟨i + 1, by omega, by go_num, hide ((blk_setCell_other _ _ _ _ (by simp; omega)).trans r0.out), hide (r1.out.of_block (blk_setCell_other _ _ _ _ (by simp; omega))), hide ((blk_setCell_other _ _ _ _ (by simp; omega)).trans r2.out), hide ((blk_setCell_other _ _ _ _ (by simp)).trans r3.out), hide ((r4.out.set _ _).congr (fun j hj => ?_)), hide ((below_drewN bb.out _).setCell (by simp; omega) _)⟩, by simp [intOf]; omega⟩
          rw [shr10, shr3, xorU, xorU, xorU, xorU, addU, addU, addU]
          have := W.out
          unfold shf at this
          rw [← this]
          exact sq_step b i j
    · have hie : i = 64 := by omega
      subst hie
      rw [show ((64 : Nat) : Int) = 64 from rfl]
      have H4 : Hid (wr.heap[g1 + 1]? = some (.cells (uc (sch b 64)) 259 (0, 0))) := of_row (by rw [uc_size, sch_len]) r4.out (fun i hi => by rw [uc_at _ _ (by rw [sch_len]; omega), sch_at b 64 i hi, sqF_at b _ i hi])
      clear r1 r4
      go_wp2_with (first | refine wpList_loadA A30 rfl _ rfl _ rfl (uc s.list) rfl 207 r0.out ?_ | refine wpList_allocA A30 rfl rfl ?_ | refine wpList_store_newA A30 rfl _ _ rfl _ rfl (uc s.list) rfl (uc_one _) rfl rfl ?_)
      obtain ⟨Y0, Y2, Y3, Y4, Y5, BB, g3l⟩ := rs_mid r0.out r2.out r3.out H4.out bb.out (A := .cells (uc s.list) 207)
      clear r0 r2 r3 H4 bb
      generalize wr.alloc (.cells (uc s.list) 207) = W3 at *
      generalize wr.heap.size = g3 at *
      have n1 : w.heap.size + 1 + 1 < g1 := hg
      have n2 := g3l.out
      clear g3l
      go_loopw [11, 12, 13, 14, 15] (fun c _ _ _ _ wx => ∃ t : Nat, t ≤ 64 ∧ c = .int .i64 t ∧ Hid (wx.heap[w.heap.size]? = some (.cells (uc s.list) 207 (0, 0))) ∧ Hid (wx.heap[w.heap.size + 1 + 1]? = some (.cells (uc zw8) 207 (0, 0))) ∧ Hid (wx.heap[g1]? = some (.cells (uc kL) 259 (0, 0))) ∧ Hid (wx.heap[g1 + 1]? = some (.cells (uc (sch b 64)) 259 (0, 0))) ∧ Hid (wx.heap[g3]? = some (.cells (uc (rnds b s t).list) 207 (0, 0))) ∧ Hid (Below w.heap.size w wx)) (fun c _ _ _ _ _ => (64 - intOf c).toNat)
      case atStart => exact ⟨0, by omega, rfl, Y0, Y2, Y3, Y4, Y5, BB⟩
      case round =>
        clear Y0 Y2 Y3 Y4 Y5 BB
        obtain ⟨t, ht, rfl, r0, r2, r3, r4, r5, bb⟩ := hrel
        by_cases htl : t < 64
        · obtain ⟨z0, z1, z2, z3, z4, z5, z6, z7⟩ := cells8 r5.out
          have k1 : wr.cell? ⟨g1, t, none⟩ = some (.int .u32 ((kk t).toNat : Int)) := (cell_of_row wr g1 t _ _ _ r3.out).trans (uc_at _ _ (by rw [kL_len]; exact htl))
          have k2 : wr.cell? ⟨g1 + 1, t, none⟩ = some (.int .u32 ((ws b t).toNat : Int)) := by
            rw [cell_of_row wr (g1 + 1) t _ _ _ r4.out, uc_at _ _ (by rw [sch_len]; exact htl), sch_at b 64 t htl]
          have t0 : (0 : Int) ≤ t := by omega
          have t1 : (t : Int) < 64 := by omega
          have HE := hide (show rnds b s (t + 1) = rnd (kk t) (ws b t) (rnds b s t) from rfl)
          generalize rnds b s t = r at *
          generalize kk t = kt at *
          generalize ws b t = wt at *
          have H6 := hide fun W => turn_any r.e 6 6 rfl (by omega) (by omega) W
          have H11 := hide fun W => turn_any r.e 11 11 rfl (by omega) (by omega) W
          have H25 := hide fun W => turn_any r.e 25 25 rfl (by omega) (by omega) W
          have H2 := hide fun W => turn_any r.a 2 2 rfl (by omega) (by omega) W
          have H13 := hide fun W => turn_any r.a 13 13 rfl (by omega) (by omega) W
          have H22 := hide fun W => turn_any r.a 22 22 rfl (by omega) (by omega) W
          go_wp2
          go_quiet (fail)
          go_wp2
          generalize hW1 : wr.drewN nq = wr1
          have HW1 := hide hW1
          rw [show ∀ a, wr.cell? a = wr1.cell? a from fun a => by rw [← hW1]; rfl] at z0 z1 z2 z3 z4 z5 z6 z7 k1 k2
          clear hW1
          go_quiet ((first | (go_at_call_of 238 (Value.int .i64 6); exact Calls.quiet_of (H6.out _)) | (go_at_call_of 238 (Value.int .i64 11); exact Calls.quiet_of (H11.out _)) | (go_at_call_of 238 (Value.int .i64 25); exact Calls.quiet_of (H25.out _))))
          go_wp2
          generalize hW2 : wr1.drewN nq = wr2
          have HW2 := hide hW2
          rw [show ∀ a, wr1.cell? a = wr2.cell? a from fun a => by rw [← hW2]; rfl] at z0 z1 z2 z3 z4 z5 z6 z7 k1 k2
          clear hW2
          go_quiet ((first | (go_at_call_of 238 (Value.int .i64 2); exact Calls.quiet_of (H2.out _)) | (go_at_call_of 238 (Value.int .i64 13); exact Calls.quiet_of (H13.out _)) | (go_at_call_of 238 (Value.int .i64 22); exact Calls.quiet_of (H22.out _))))
          have r5' : Hid ((wr2.drewN nq).heap[g3]? = some (.cells (uc r.list) 207 (0, 0))) := by
            rw [← HW2.out, ← HW1.out]; exact r5.out
          rw [one_eq, two_eq]
          have HE' : Hid (rnds b s (t + 1) = ⟨tone kt wt r + ttwo r, r.a, r.b, r.c, r.d + tone kt wt r, r.e, r.f, r.g⟩) := HE.out
          clear HE
          generalize tone kt wt r = p1 at *
          generalize ttwo r = p2 at *
          have hcells : #[Value.int .u32 (((p1.toNat : Int) + p2.toNat) % 4294967296), .int .u32 (r.a.toNat : Int), .int .u32 (r.b.toNat : Int), .int .u32 (r.c.toNat : Int), .int .u32 (((r.d.toNat : Int) + p1.toNat) % 4294967296), .int .u32 (r.e.toNat : Int), .int .u32 (r.f.toNat : Int), .int .u32 (r.g.toNat : Int)] = uc (rnds b s (t + 1)).list := by
            rw [HE'.out, addU, addU]; rfl
          have HCL := hide hcells
          clear hcells HE'
          generalize hL : (rnds b s (t + 1)).list = L at HCL
          have HL := hide hL
          clear hL
          go_wp2_with (refine wpList_storeA A30 rfl _ _ rfl g3 (uc L) (by rw [← HCL.out]; rfl) (uc_one _) rfl (congrArg Value.agg HCL.out) (uc r.list) rfl 207 r5'.out ?_)
          have HH : Hid ((wr2.drewN nq).heap = wr.heap) := by
            rw [← HW2.out, ← HW1.out]; rfl
          have B2 : Hid (Below w.heap.size w (wr2.drewN nq)) := by
            rw [← HW2.out, ← HW1.out]; exact below_drewN (below_drewN (below_drewN bb.out _) _) _
          exact ⟨⟨t + 1, by omega, by go_num, hide ((setRow_other _ _ _ _ (by omega)).trans (by rw [HH.out]; exact r0.out)), hide ((setRow_other _ _ _ _ (by omega)).trans (by rw [HH.out]; exact r2.out)), hide ((setRow_other _ _ _ _ (by omega)).trans (by rw [HH.out]; exact r3.out)), hide ((setRow_other _ _ _ _ (by omega)).trans (by rw [HH.out]; exact r4.out)), hide (by rw [HL.out]; exact setRow_heap _ _ _ _ _ _ r5'.out), hide (below_setRow B2.out (by omega) _)⟩, by simp [intOf]; omega⟩
        · have hte : t = 64 := by omega
          subst hte
          rw [show ((64 : Nat) : Int) = 64 from rfl]
          have HT := hide (show step s b = addS s (rnds b s 64) from rfl)
          generalize rnds b s 64 = r at *
          have R0 : Hid (wr.rowIs w.heap.size 207 8 (adF r s 0)) := row_of (c := uc s.list) rfl r0.out (fun i hi => by rw [st_at s i hi]; simp [adF])
          have R5 : Hid (wr.rowIs g3 207 8 (fun j => .int .u32 ((r.at j).toNat : Int))) := row_of (c := uc r.list) rfl r5.out (fun i hi => st_at r i hi)
          clear r0 r5 r3 r4
          go_wp2
          go_loopw [16] (fun c wx => ∃ i : Nat, i ≤ 8 ∧ c = .int .i64 i ∧ Hid (wx.rowIs w.heap.size 207 8 (adF r s i)) ∧ Hid (wx.heap[w.heap.size + 1 + 1]? = some (.cells (uc zw8) 207 (0, 0))) ∧ Hid (wx.rowIs g3 207 8 (fun j => .int .u32 ((r.at j).toNat : Int))) ∧ Hid (Below w.heap.size w wx)) (fun c _ => (8 - intOf c).toNat)
          case atStart => exact ⟨0, by omega, rfl, R0, r2, R5, bb⟩
          case round =>
            clear R0 r2 R5 bb
            obtain ⟨i, hi, rfl, r0, r2, r5, bb⟩ := hrel
            by_cases hi8 : i < 8
            · have c0 := r0.out.cell hi8
              have c5 := r5.out.cell hi8
              have f0 := r0.out.frozen i
              have t0 : (0 : Int) ≤ i := by omega
              have t1 : (i : Int) < 8 := by omega
              rw [adF_at] at c0
              go_wp2
              go_region
              all_goals go_wp2
              all_goals
                refine ⟨⟨i + 1, by omega, by go_num, hide (((r0.out.set _ _).congr (fun j hj => ?_)).drew), hide ((blk_setCell_other _ _ _ _ (by simp; omega)).trans r2.out), hide ((r5.out.setOther (by simp; omega) _).drew), hide ((bb.out.setCell (by simp) _).drew)⟩, by simp [intOf]; omega⟩
                rw [addU]
                exact adF_step r s i j
            · have hie : i = 8 := by omega
              subst hie
              have H2 : wr.heap[w.heap.size]? = some (.cells (uc (addS r s).list) 207 (0, 0)) := of_row rfl r0.out (fun i hi => by rw [st_at _ i hi, adF_end r s i hi])
              rw [addS_comm] at H2
              go_wp2_with (first | refine wpList_loadA A30 rfl _ rfl _ rfl (uc (addS s r).list) rfl 207 H2 ?_ | refine wpList_storeA A30 rfl _ _ rfl _ (uc (addS s r).list) rfl (uc_one _) rfl rfl (uc zw8) (by rw [uc_size, zw8_len]) 207 r2.out ?_)
              exact bodyPost_ret (v := .agg (uc (addS s r).list)) (resA A30 Tryz.results197 _ _ (w.heap.size + 1 + 1) 207 _ rfl rfl (setRow_heap _ _ _ _ _ _ r2.out)) rfl ⟨by rw [HT.out], below_setRow bb.out (by omega) _⟩
end
end Go.Proofs.YthhojpplbhnnfaaGreatDoor
namespace Go.Proofs.YthhojpplbhnnfaaGreatDoor
open Go.RowKit
open Go.Deep
theorem pad_whole (n : Nat) : (n + (9 + padZ n)) % 64 = 0 := by unfold padZ; omega
theorem by8_get (x : ByteArray) (k : Nat) (h : k < x.size) : (by8 x.data.toList k : Int) = (x[k].toNat : Int) := by
  unfold by8
  rw [List.getD_eq_getElem?_getD, List.getElem?_eq_getElem (by simpa using h)]
  rfl
/-- A block while it is filled: j bytes stand. -/
def bkF (t : List UInt8) (o n j : Nat) : Value := .int .u8 (if j < n then (by8 t (o + j) : Int) else 0)
theorem bkF_step (t : List UInt8) (o n j : Nat) : (if j = n then Value.int .u8 (by8 t (o + n) : Int) else bkF t o n j) = bkF t o (n + 1) j := by
  unfold bkF
  by_cases e : j = n
  · subst e
    rw [if_pos rfl, if_pos (by omega)]
  · rw [if_neg e]
    by_cases e2 : j < n
    · rw [if_pos e2, if_pos (by omega)]
    · rw [if_neg e2, if_neg (by omega)]
theorem bk_len (t : List UInt8) (k : Nat) (h : 64 * k + 64 ≤ t.length) : ((t.drop (64 * k)).take 64).length = 64 := by
  rw [List.length_take, List.length_drop]; omega
theorem bk_at (t : List UInt8) (k j : Nat) (hj : j < 64) (h : 64 * k + 64 ≤ t.length) : (hc ((t.drop (64 * k)).take 64))[j]? = some (bkF t (64 * k) 64 j) := by
  rw [hc_at _ _ (by rw [bk_len t k h]; exact hj)]
  unfold bkF by8
  rw [if_pos hj]
  simp only [List.getD_eq_getElem?_getD, List.getElem?_take, hj, List.getElem?_drop]
  rfl
section
set_option maxRecDepth 10000
set_option maxHeartbeats 1000000
theorem rsum_any (s : ByteArray) (hs : s.size < 2305843009213693000) (w : World) : Calls Tryz.prog 149 #[.string s] w fun e w' => e = .returned (.agg (hc (digest s.data.toList))) ∧ Below w.heap.size w w' := by
  have hpad := hide fun W => rpad_any s.size (by omega) W
  have hpl : (⟨(padL s.size).toArray⟩ : ByteArray).size = 9 + padZ s.size := by
    show (padL s.size).toArray.size = _
    rw [List.size_toArray, padL_len]
  have hzl := padZ_lt s.size
  have hsz : (s ++ (⟨(padL s.size).toArray⟩ : ByteArray)).size = s.size + (9 + padZ s.size) := by rw [ByteArray.size_append, hpl]
  have hX : (s ++ (⟨(padL s.size).toArray⟩ : ByteArray)).data.toList = s.data.toList ++ padL s.data.toList.length := by simp
  have hm := pad_whole s.size
  have hfin : stN (s.data.toList ++ padL s.data.toList.length) ((s.data.toList ++ padL s.data.toList.length).length / 64) = fin s.data.toList := rfl
  rw [← hX] at hfin
  have hdl := digest_len s.data.toList
  have hD : (fin s.data.toList).bytes = digest s.data.toList := rfl
  have HF := hide fun W => rfirst_any W
  have hw : IntKind.u64.wrap (s.size : Int) = (s.size : Int) := wrapu _ (by omega) (by omega)
  clear hX
  generalize fin s.data.toList = ff at *
  rw [← hD] at hdl ⊢
  clear hD
  have HB := hide fun W => rbytes_any ff W
  generalize ff.bytes = D at *
  generalize (⟨(padL s.size).toArray⟩ : ByteArray) = P at *
  go_enter Tryz.func149, Tryz.ntmps149
  go_wp2_with (first | refine wpList_allocA A24 rfl rfl ?_ | (go_at_call 195; refine (hpad.out _).mono ?_; rintro e w1 ⟨rfl, b1⟩; obtain ⟨n1, B1, hlt⟩ := sb_mid b1 (Nat.le_refl _); clear b1 hlt) | (go_at_call 196; refine (HF.out _).mono ?_; rintro e w2 ⟨rfl, b2⟩; obtain ⟨n2, B2⟩ := sb_last n1.out B1.out b2; clear b2) | refine wpList_allocA A30 rfl rfl ?_ | refine wpList_store_newA A30 rfl _ _ rfl _ rfl (uc first.list) rfl (uc_one _) rfl rfl ?_)
  have n3 := hide ((Below.heap_alloc _ (.cells (uc first.list) 207) _ (lt_heap n2.out)).trans n2.out)
  have g3 := hide (heap_alloc_last w2 (.cells (uc first.list) 207))
  have B3 := hide (B2.out.alloc B2.out.size (.cells (uc first.list) 207))
  have hg : w.heap.size < w2.heap.size := lt_heap n2.out
  clear n1 B1 n2 B2 hpad HF
  generalize w2.alloc (.cells (uc first.list) 207) = W3 at *
  generalize w2.heap.size = g at *
  generalize hXX : s ++ P = X at *
  have hX2 : X.size % 64 = 0 := by rw [hsz]; exact hm
  have hX3 : X.size < 2305843009213694000 := by omega
  have hXl : X.data.toList.length = X.size := by simp
  have HFF := hide hfin
  clear hsz hm hpl hXX hfin
  go_loopw [4, 5, 6] (fun c _ _ wr => ∃ k : Nat, 64 * k ≤ X.size ∧ c = .int .i64 (64 * (k : Int)) ∧ Hid (wr.heap[w.heap.size]? = some (.cells (hc zeros) 45 (0, 0))) ∧ Hid (wr.heap[g]? = some (.cells (uc (stN X.data.toList k).list) 207 (0, 0))) ∧ Hid (Below w.heap.size w wr)) (fun c _ _ _ => (X.size - intOf c).toNat)
  case atStart => exact ⟨0, by omega, rfl, n3, g3, B3⟩
  case round =>
    clear n3 g3 B3
    obtain ⟨k, hk, rfl, r0, r1, bb⟩ := hrel
    by_cases hlt : 64 * k < X.size
    · have hlt' : 64 * (k : Int) < X.size := by omega
      go_wp2_with (first | refine wpList_buildA A35 rfl rfl ?_ | refine wpList_allocA A35 rfl rfl ?_ | refine wpList_store_newA A35 rfl _ _ rfl _ rfl (hc zeros64) (by rw [hc_size, zeros64_len]) (hc_one _) rfl rfl ?_)
      have q0 := hide ((Below.heap_alloc _ (.cells (hc zeros64) 210) _ (lt_heap r0.out)).trans r0.out)
      have q1 := hide ((Below.heap_alloc _ (.cells (hc zeros64) 210) _ (lt_heap r1.out)).trans r1.out)
      have qb := hide (bb.out.alloc bb.out.size (.cells (hc zeros64) 210))
      have q2 : Hid ((wr.alloc (.cells (hc zeros64) 210)).rowIs wr.heap.size 210 64 (bkF X.data.toList (64 * k) 0)) := row_of (by rw [hc_size, zeros64_len]) (heap_alloc_last _ _) (fun i hi => by
        rw [hc_at _ _ (by rw [zeros64_len]; exact hi), by8, zeros64, List.getD_eq_getElem?_getD, List.getElem?_replicate, if_pos hi]
        simp [bkF])
      have g1l : g < wr.heap.size := lt_heap r1.out
      have g0l : w.heap.size < wr.heap.size := lt_heap r0.out
      clear r0 r1 bb
      generalize wr.alloc (.cells (hc zeros64) 210) = W4 at *
      generalize wr.heap.size = gb at *
      go_loopw [6] (fun c wx => ∃ j : Nat, j ≤ 64 ∧ c = .int .i64 j ∧ Hid (wx.heap[w.heap.size]? = some (.cells (hc zeros) 45 (0, 0))) ∧ Hid (wx.heap[g]? = some (.cells (uc (stN X.data.toList k).list) 207 (0, 0))) ∧ Hid (wx.rowIs gb 210 64 (bkF X.data.toList (64 * k) j)) ∧ Hid (Below w.heap.size w wx)) (fun c _ => (64 - intOf c).toNat)
      case atStart => exact ⟨0, by omega, rfl, q0, q1, q2, qb⟩
      case round =>
        clear q0 q1 q2 qb
        obtain ⟨j, hj, rfl, r0, r1, r2, bb⟩ := hrel
        by_cases hj64 : j < 64
        · have c2 := r2.out.cell hj64
          have f2 := r2.out.frozen j
          have e1 : (64 * (k : Int) + j).toNat = 64 * k + j := by omega
          have t0 : (0 : Int) ≤ 64 * k + j := by omega
          have t1 : 64 * (k : Int) + j < X.size := by omega
          have t2 : (0 : Int) ≤ j := by omega
          have t3 : (j : Int) < 64 := by omega
          have hbg := by8_get X (64 * k + j) (by omega)
          have HBG := hide hbg
          clear hbg
          go_wp2
          refine ⟨⟨j + 1, by omega, by go_num, hide ((blk_setCell_other _ _ _ _ (by simp; omega)).trans r0.out), hide ((blk_setCell_other _ _ _ _ (by simp; omega)).trans r1.out), hide ((r2.out.set _ _).congr (fun i hi => ?_)), hide (bb.out.setCell (by simp; omega) _)⟩, by simp [intOf]; omega⟩
          rw [← HBG.out]
          exact bkF_step X.data.toList (64 * k) j i
        · have hje : j = 64 := by omega
          subst hje
          have hbl := bk_len X.data.toList k (by omega)
          have H2 : Hid (wr.heap[gb]? = some (.cells (hc ((X.data.toList.drop (64 * k)).take 64)) 210 (0, 0))) := of_row (by rw [hc_size, hbl]) r2.out (fun i hi => bk_at X.data.toList k i hi (by omega))
          have HST := hide fun W => rstep_any (stN X.data.toList k) ((X.data.toList.drop (64 * k)).take 64) hbl W
          rw [show step (stN X.data.toList k) ((X.data.toList.drop (64 * k)).take 64) = stN X.data.toList (k + 1) from rfl] at HST
          generalize hB : (X.data.toList.drop (64 * k)).take 64 = Bk at *
          generalize hS1 : stN X.data.toList k = S1 at *
          generalize hS2 : stN X.data.toList (k + 1) = S2 at *
          have HS2 := hide hS2
          clear hB hS1 hS2
          go_wp2_with (first | refine wpList_loadA A30 rfl _ rfl _ rfl (uc S1.list) rfl 207 r1.out ?_ | refine wpList_loadA A35 rfl _ rfl _ rfl (hc Bk) (by rw [hc_size, hbl]) 210 H2.out ?_ | (go_at_call 197; refine (HST.out _).mono ?_; rintro e w5 ⟨rfl, b5⟩; have p0 := hide ((b5.block _ (lt_heap r0.out)).trans r0.out); have p1 := hide ((b5.block _ (lt_heap r1.out)).trans r1.out); have pb := hide (bb.out.trans (b5.mono bb.out.size)); clear b5) | refine wpList_storeA A30 rfl _ _ rfl _ (uc S2.list) rfl (uc_one _) rfl rfl (uc S1.list) rfl 207 p1.out ?_)
          exact ⟨⟨k + 1, by omega, by congr 1, hide ((setRow_other _ _ _ _ (by omega)).trans p0.out), hide (by rw [HS2.out]; exact setRow_heap _ _ _ _ _ _ p1.out), hide (below_setRow pb.out (by omega) _)⟩, by simp [intOf]; omega⟩
    · have hke : X.data.toList.length / 64 = k := by omega
      have hf := HFF.out
      rw [hke] at hf
      rw [hf] at r1
      have hlt' : ¬ 64 * (k : Int) < X.size := by omega
      clear hf
      go_wp2_with (first | refine wpList_loadA A30 rfl _ rfl _ rfl (uc ff.list) rfl 207 r1.out ?_ | (go_at_call 198; refine (HB.out _).mono ?_; rintro e w5 ⟨rfl, b5⟩; have p0 := hide ((b5.block _ (lt_heap r0.out)).trans r0.out); have pb := hide (bb.out.trans (b5.mono bb.out.size)); clear b5) | refine wpList_storeA A24 rfl _ _ rfl _ (hc D) (by rw [hc_size, hdl]) (hc_one _) rfl rfl (hc zeros) (by rw [hc_size, zeros_len]) 45 p0.out ?_)
      exact bodyPost_ret (v := .agg (hc D)) (resA A24 Tryz.results149 _ _ w.heap.size 45 _ (by rw [hc_size, hdl]) rfl (setRow_heap _ _ _ _ _ _ p0.out)) rfl ⟨rfl, below_setRow pb.out (Nat.le_refl _) _⟩
end
end Go.Proofs.YthhojpplbhnnfaaGreatDoor
namespace Go.Proofs.YthhojpplbhnnfaaGreatDoor
open Go.RowKit
open Go.Deep
theorem abc_ends : sb (fin [97, 98, 99]) 0 = 186 ∧ sb (fin [97, 98, 99]) 31 = 173 := by
  decide +kernel
theorem idx31 (s : St) (i : Nat) (h : i < 8) (w : World) : (Instr.index 208 (.agg (uc s.list)) (.int .i64 (i : Int))).run Tryz.prog w = .ok (.int .u32 ((s.at i).toNat : Int)) w := by
  obtain ⟨a, b, c, d, e, f, g, k⟩ := s
  rcases i with _ | _ | _ | _ | _ | _ | _ | _ | i
  all_goals first | omega | kernel_rfl
section
set_option maxRecDepth 10000
set_option maxHeartbeats 1000000
end
end Go.Proofs.YthhojpplbhnnfaaGreatDoor
