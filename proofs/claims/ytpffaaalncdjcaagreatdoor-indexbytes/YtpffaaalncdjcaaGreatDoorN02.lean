/- The contract of sha.Step: the state behind a block. The first state, and a state's bytes: the contracts of First, laid, and the document's First and Bytes. Bytes that are appended; the padding: the contracts of Pad and of the document's Pad. -/
import Derived.Test.YtpffaaalncdjcaaGreatDoorN01
namespace Go.Proofs.YtpffaaalncdjcaaGreatDoor
open Go.RowKit
open Go.Deep
/-- The package's table holds K0 .. K63. -/
def Kg (w : World) : Prop := ∀ j, j < 64 → w.cell? ⟨0, j, none⟩ = some (.int .u32 ((kk j).toNat : Int))
theorem Kg.lt {w : World} (h : Kg w) : 0 < w.heap.size := by
  have := h 0 (by omega)
  rcases Nat.lt_or_ge 0 w.heap.size with h' | h'
  · exact h'
  · have e : w.heap[0]? = none := Array.getElem?_eq_none h'
    simp [World.cell?, e] at this
theorem Kg.pos {w : World} (h : Kg w) : 0 < w.heap.size := Nat.lt_of_le_of_lt (Nat.zero_le _) h.lt
theorem Kg.below {w w' : World} {B : Nat} (h : Kg w) (hB : 0 < B) (b : Below B w w') : Kg w' := fun j hj => (b.cell (p := ⟨0, j, none⟩) hB).trans (h j hj)
theorem Kg.next {w w' : World} (h : Kg w) (b : Below w.heap.size w w') : Kg w' := h.below h.lt b
theorem Kg.drewN {w : World} (h : Kg w) (n : Nat) : Kg (w.drewN n) := h
theorem addS_at (x y : St) (j : Nat) (h : j < 8) : (addS x y).at j = x.at j + y.at j := by
  rcases j with _ | _ | _ | _ | _ | _ | _ | _ | j
  all_goals first | rfl | omega
theorem st_at (s : St) (k : Nat) (hk : k < 8) : (uc s.list)[k]? = some (.int .u32 ((s.at k).toNat : Int)) := uc_at _ _ hk
/-- The last loop's row: i sums stand. -/
def adF (s r : St) (i j : Nat) : Value := .int .u32 ((if j < i then s.at j + r.at j else r.at j).toNat : Int)
theorem adF_step (s r : St) (i j : Nat) : (if j = i then Value.int .u32 ((r.at i + s.at i).toNat : Int) else adF s r i j) = adF s r (i + 1) j := by
  unfold adF
  by_cases e : j = i
  · subst e
    rw [if_pos rfl, if_pos (by omega), UInt32.add_comm]
  · rw [if_neg e]
    by_cases e2 : j < i
    · rw [if_pos e2, if_pos (by omega)]
    · rw [if_neg e2, if_neg (by omega)]
theorem adF_at (s r : St) (i : Nat) : adF s r i i = .int .u32 ((r.at i).toNat : Int) := by
  simp [adF]
theorem adF_end (s r : St) (j : Nat) (hj : j < 8) : adF s r 8 j = .int .u32 (((addS s r).at j).toNat : Int) := by
  rw [addS_at s r j hj]
  simp [adF, hj]
theorem cells8 {w : World} {g : Nat} {t : TypeId} {s : St} (h : w.heap[g]? = some (.cells (uc s.list) t (0, 0))) :
    w.cell? ⟨g, 0, none⟩ = some (.int .u32 (s.a.toNat : Int)) ∧ w.cell? ⟨g, 1, none⟩ = some (.int .u32 (s.b.toNat : Int)) ∧ w.cell? ⟨g, 2, none⟩ = some (.int .u32 (s.c.toNat : Int)) ∧ w.cell? ⟨g, 3, none⟩ = some (.int .u32 (s.d.toNat : Int)) ∧
    w.cell? ⟨g, 4, none⟩ = some (.int .u32 (s.e.toNat : Int)) ∧ w.cell? ⟨g, 5, none⟩ = some (.int .u32 (s.f.toNat : Int)) ∧ w.cell? ⟨g, 6, none⟩ = some (.int .u32 (s.g.toNat : Int)) ∧ w.cell? ⟨g, 7, none⟩ = some (.int .u32 (s.h.toNat : Int)) :=
  ⟨cell_of_row w g 0 _ t _ h, cell_of_row w g 1 _ t _ h, cell_of_row w g 2 _ t _ h, cell_of_row w g 3 _ t _ h, cell_of_row w g 4 _ t _ h, cell_of_row w g 5 _ t _ h, cell_of_row w g 6 _ t _ h, cell_of_row w g 7 _ t _ h⟩
theorem step_mid {w w1 : World} {A B C : Obj} (x0 : (((w.alloc A).alloc B).alloc C).heap[w.heap.size]? = some A) (x2 : (((w.alloc A).alloc B).alloc C).heap[w.heap.size + 1 + 1]? = some C) (hK : Kg w) (b1 : Below (((w.alloc A).alloc B).alloc C).heap.size (((w.alloc A).alloc B).alloc C) w1) (l : List UInt32) :
    Hid ((w1.alloc (.cells (uc l) 248)).heap[w.heap.size]? = some A) ∧ Hid ((w1.alloc (.cells (uc l) 248)).heap[w.heap.size + 1 + 1]? = some C) ∧ Hid ((w1.alloc (.cells (uc l) 248)).heap[w1.heap.size]? = some (.cells (uc l) 248)) ∧ Hid (Below w.heap.size w (w1.alloc (.cells (uc l) 248))) ∧ Hid (Kg (w1.alloc (.cells (uc l) 248))) := by
  have hN : (((w.alloc A).alloc B).alloc C).heap.size = w.heap.size + 1 + 1 + 1 := by simp
  have hs := b1.size
  have B1 : Below w.heap.size w w1 := (below3 w A B C).trans (b1.mono (by omega))
  have B2 := B1.alloc B1.size (.cells (uc l) 248)
  refine ⟨(Below.heap_alloc _ _ _ (by omega)).trans ((b1.block _ (by omega)).trans x0), (Below.heap_alloc _ _ _ (by omega)).trans ((b1.block _ (by omega)).trans x2), heap_alloc_last _ _, B2, hK.next B2⟩
section
set_option maxRecDepth 10000
set_option maxHeartbeats 1000000
theorem step_any (s : St) (b : List UInt8) (hl : b.length = 64) (w : World) (hK : Kg w) : Calls Tryz.prog 166 #[.agg (uc s.list), .agg (hc b)] w fun e w' => e = .returned (.agg (uc (step s b).list)) ∧ Below w.heap.size w w' := by
  have HS := hide fun W => spread_any b hl W
  have HK := hide hK
  clear hK
  go_enter Tryz.func166, Tryz.ntmps166
  go_upto_region 1 with (first | refine wpList_boxA rfl _ rfl (uc s.list) rfl ?_ | refine wpList_boxA rfl _ rfl (hc b) rfl ?_ | refine wpList_allocA A31 rfl rfl ?_)
  obtain ⟨x0, x1, x2⟩ := blk3 w (.cells (uc s.list) 242) (.cells (hc b) 228) (.cells (uc zw8) 242)
  have X1 := hide x1
  clear x1
  go_upto_region 2 with (first | refine wpList_loadA A35 rfl _ rfl _ rfl (hc b) (by rw [hc_size, hl]) 228 (by simpa using X1.out) ?_ | (go_at_call 183; refine (HS.out _).mono ?_; rintro e w1 ⟨rfl, b1⟩) | refine wpList_allocA A66 rfl rfl ?_ | refine wpList_store_newA A66 rfl _ _ rfl _ rfl (uc (sch b 64)) (by rw [uc_size, sch_len]) (uc_one _) rfl rfl ?_)
  obtain ⟨y0, y2, y3, BB, KK⟩ := step_mid x0 x2 HK.out b1 (sch b 64)
  clear x0 x2 b1 X1 HK HS
  generalize w1.alloc (.cells (uc (sch b 64)) 248) = W2 at *
  generalize w1.heap.size = g1 at *
  obtain ⟨z0, z1, z2, z3, z4, z5, z6, z7⟩ := cells8 y0.out
  go_quiet (fail)
  clear z0 z1 z2 z3 z4 z5 z6 z7
  go_wp2
  go_loopw [6, 7, 8, 9, 10, 11, 12, 13, 37] (fun va vb vc vd ve vf vg vh vt wr => ∃ t n : Nat, t ≤ 64 ∧ vt = .int .i64 t ∧ va = .int .u32 ((rnds b s t).a.toNat : Int) ∧ vb = .int .u32 ((rnds b s t).b.toNat : Int) ∧ vc = .int .u32 ((rnds b s t).c.toNat : Int) ∧ vd = .int .u32 ((rnds b s t).d.toNat : Int) ∧ ve = .int .u32 ((rnds b s t).e.toNat : Int) ∧ vf = .int .u32 ((rnds b s t).f.toNat : Int) ∧ vg = .int .u32 ((rnds b s t).g.toNat : Int) ∧ vh = .int .u32 ((rnds b s t).h.toNat : Int) ∧ Hid (wr = W2.drewN n)) (fun _ _ _ _ _ _ _ _ vt _ => (64 - intOf vt).toNat)
  case atStart => exact ⟨0, nq, by omega, rfl, rfl, rfl, rfl, rfl, rfl, rfl, rfl, rfl, rfl⟩
  case round =>
    obtain ⟨t, n, ht, rfl, rfl, rfl, rfl, rfl, rfl, rfl, rfl, rfl, HW⟩ := hrel
    by_cases hlt : t < 64
    · have k1 : wr.cell? ⟨0, t, none⟩ = some (.int .u32 ((kk t).toNat : Int)) := by rw [HW.out]; exact KK.out t hlt
      have k2 : wr.cell? ⟨g1, t, none⟩ = some (.int .u32 ((ws b t).toNat : Int)) := by
        rw [HW.out]
        have := cell_of_row W2 g1 t _ _ _ y3.out
        rw [uc_at _ _ (by rw [sch_len]; exact hlt), sch_at b 64 t hlt] at this
        exact this
      have t0 : (0 : Int) ≤ t := by omega
      have t1 : (t : Int) < 64 := by omega
      have HE := hide (show rnds b s (t + 1) = rnd (kk t) (ws b t) (rnds b s t) from rfl)
      generalize rnds b s t = r at *
      generalize kk t = kt at *
      generalize ws b t = wt at *
      have H1 := hide fun W => turned_any r.e 6 11 25 6 11 25 rfl rfl rfl (by omega) (by omega) (by omega) (by omega) (by omega) (by omega) W
      have H2 := hide fun W => turned_any r.a 2 13 22 2 13 22 rfl rfl rfl (by omega) (by omega) (by omega) (by omega) (by omega) (by omega) W
      go_wp2
      go_quiet ((go_at_call 184; exact Calls.quiet_of_same (H1.out _)))
      go_wp2_with (go_at_call 184; refine (H2.out _).mono ?_; rintro e w3 ⟨rfl, rfl⟩)
      refine ⟨⟨t + 1, n + nq, by omega, by go_num, ?_, ?_, ?_, ?_, ?_, ?_, ?_, ?_, hide (by rw [HW.out, World.drewN_drewN])⟩, by simp [intOf]; omega⟩
      all_goals rw [HE.out]
      · rw [notX, andU, andU, xorU, andU, andU, andU, xorU, xorU, add5, addU, addU]; rfl
      · rfl
      · rfl
      · rfl
      · rw [notX, andU, andU, xorU, add5, addU]; rfl
      · rfl
      · rfl
      · rfl
    · have hte : t = 64 := by omega
      subst hte
      rw [show ((64 : Nat) : Int) = 64 from rfl]
      have HT := hide (show step s b = addS s (rnds b s 64) from rfl)
      generalize rnds b s 64 = r at *
      have Y0 : Hid (wr.rowIs w.heap.size 242 8 (fun j => .int .u32 ((s.at j).toNat : Int))) := by
        refine row_of (c := uc s.list) rfl ?_ (fun i hi => st_at s i hi)
        rw [HW.out]; exact y0.out
      have Y2 : Hid (wr.heap[w.heap.size + 1 + 1]? = some (.cells (uc zw8) 242 (0, 0))) := by
        rw [HW.out]; exact y2.out
      have B0 : Hid (Below w.heap.size w wr) := by
        rw [HW.out]; exact below_drewN BB.out n
      clear HW y0 y2 y3 BB KK
      go_wp2_with (first | refine wpList_allocA A31 rfl rfl ?_ | refine wpList_store_newA A31 rfl _ _ rfl _ rfl (uc r.list) rfl (uc_one _) rfl rfl ?_)
      have R2 : Hid ((wr.alloc (.cells (uc r.list) 242)).rowIs wr.heap.size 242 8 (adF s r 0)) := row_of (c := uc r.list) rfl (heap_alloc_last _ _) (fun i hi => by rw [st_at r i hi]; simp [adF])
      have R0 := hide (Y0.out.alloc (.cells (uc r.list) 242))
      have R1 := hide ((Below.heap_alloc _ (.cells (uc r.list) 242) _ (lt_heap Y2.out)).trans Y2.out)
      have BB := hide (B0.out.alloc B0.out.size (.cells (uc r.list) 242))
      have n1 := Y0.out.lt
      have n2 := lt_heap Y2.out
      clear Y0 Y2 B0
      generalize wr.alloc (.cells (uc r.list) 242) = W3 at *
      generalize wr.heap.size = g2 at *
      go_loopw [97] (fun c wx => ∃ i : Nat, i ≤ 8 ∧ c = .int .i64 i ∧ Hid (wx.rowIs w.heap.size 242 8 (fun j => .int .u32 ((s.at j).toNat : Int))) ∧ Hid (wx.heap[w.heap.size + 1 + 1]? = some (.cells (uc zw8) 242 (0, 0))) ∧ Hid (wx.rowIs g2 242 8 (adF s r i)) ∧ Hid (Below w.heap.size w wx)) (fun c _ => (8 - intOf c).toNat)
      case atStart => exact ⟨0, by omega, rfl, R0, R1, R2, BB⟩
      case round =>
        clear R0 R1 R2 BB
        obtain ⟨i, hi, rfl, r0, r1, r2, bb⟩ := hrel
        by_cases hi8 : i < 8
        · have c0 := r0.out.cell hi8
          have c2 := r2.out.cell hi8
          have f2 := r2.out.frozen i
          have t0 : (0 : Int) ≤ i := by omega
          have t1 : (i : Int) < 8 := by omega
          rw [adF_at] at c2
          go_wp2
          go_region
          all_goals go_wp2
          all_goals
            refine ⟨⟨i + 1, by omega, by go_num, hide ((r0.out.setOther (by simp; omega) _).drew), hide ((blk_setCell_other _ _ _ _ (by simp; omega)).trans r1.out), hide (((r2.out.set _ _).congr (fun j hj => ?_)).drew), hide ((bb.out.setCell (by simp; omega) _).drew)⟩, by simp [intOf]; omega⟩
            rw [addU]
            exact adF_step s r i j
        · have hie : i = 8 := by omega
          subst hie
          have H2 : wr.heap[g2]? = some (.cells (uc (addS s r).list) 242 (0, 0)) := of_row rfl r2.out (fun i hi => by rw [st_at _ i hi, adF_end s r i hi])
          go_wp2_with (first | refine wpList_loadA A31 rfl _ rfl _ rfl (uc (addS s r).list) rfl 242 H2 ?_ | refine wpList_storeA A31 rfl _ _ rfl _ (uc (addS s r).list) rfl (uc_one _) rfl rfl (uc zw8) (by rw [uc_size, zw8_len]) 242 r1.out ?_)
          exact bodyPost_ret (v := .agg (uc (addS s r).list)) (resA A31 Tryz.results166 _ _ (w.heap.size + 1 + 1) 242 _ rfl rfl (setRow_heap _ _ _ _ _ _ r1.out)) rfl ⟨by rw [HT.out], below_setRow bb.out (by omega) _⟩
end
end Go.Proofs.YtpffaaalncdjcaaGreatDoor
namespace Go.Proofs.YtpffaaalncdjcaaGreatDoor
open Go.RowKit
open Go.Deep
/-- The byte j of a word, the highest first. -/
def wb (x : UInt32) (j : Nat) : UInt8 := UInt8.ofNat (x.toNat / 2 ^ (24 - 8 * j))
/-- The byte k of a state. -/
def sb (s : St) (k : Nat) : UInt8 := wb (s.at (k / 4)) (k % 4)
/-- A state's bytes. -/
def St.bytes (s : St) : List UInt8 := (List.range 32).map (sb s)
theorem bytes_len (s : St) : s.bytes.length = 32 := by simp [St.bytes]
theorem bytes_at (s : St) (k : Nat) (h : k < 32) : (hc s.bytes)[k]? = some (.int .u8 ((sb s k).toNat : Int)) := by
  rw [hc_at _ _ (by rw [bytes_len]; exact h)]
  simp [by8, St.bytes, h]
/-- The bytes while they are laid: n of them stand. -/
def laF (s : St) (n j : Nat) : Value := .int .u8 (if j < n then ((sb s j).toNat : Int) else 0)
theorem laF_step (s : St) (n j : Nat) : (if j = n then Value.int .u8 ((sb s n).toNat : Int) else laF s n j) = laF s (n + 1) j := by
  unfold laF
  by_cases e : j = n
  · subst e
    rw [if_pos rfl, if_pos (by omega)]
  · rw [if_neg e]
    by_cases e2 : j < n
    · rw [if_pos e2, if_pos (by omega)]
    · rw [if_neg e2, if_neg (by omega)]
theorem sb_eq (s : St) (i j : Nat) (hj : j < 4) : ((s.at i).toNat : Int) / 2 ^ (24 - 8 * j) % 256 = ((sb s (4 * i + j)).toNat : Int) := by
  have e1 : (4 * i + j) / 4 = i := by omega
  have e2 : (4 * i + j) % 4 = j := by omega
  rw [sb, e1, e2, wb, UInt8.toNat_ofNat']
  simp
section
set_option maxRecDepth 10000
set_option maxHeartbeats 1000000
theorem first_any (w : World) : Calls Tryz.prog 165 #[] w fun e w' => e = .returned (.agg (uc first.list)) ∧ Below w.heap.size w w' := by
  go_enter Tryz.func165, Tryz.ntmps165
  go_wp2_with (first | refine wpList_allocA A31 rfl rfl ?_ | refine wpList_store_newA A31 rfl _ _ rfl _ rfl (uc first.list) rfl (uc_one _) rfl rfl ?_)
  exact bodyPost_ret (v := .agg (uc first.list)) (resA A31 Tryz.results165 _ _ w.heap.size 242 _ rfl rfl (heap_alloc_last _ _)) rfl ⟨rfl, (Below.refl _ _).alloc (Nat.le_refl _) _⟩
theorem rfirst_any (w : World) : Calls Tryz.prog 149 #[] w fun e w' => e = .returned (.agg (uc first.list)) ∧ Below w.heap.size w w' := by
  go_enter Tryz.func149, Tryz.ntmps149
  go_wp2_with (first | refine wpList_allocA A30 rfl rfl ?_ | refine wpList_store_newA A30 rfl _ _ rfl _ rfl (uc first.list) rfl (uc_one _) rfl rfl ?_)
  exact bodyPost_ret (v := .agg (uc first.list)) (resA A30 Tryz.results149 _ _ w.heap.size 226 _ rfl rfl (heap_alloc_last _ _)) rfl ⟨rfl, (Below.refl _ _).alloc (Nat.le_refl _) _⟩
theorem laid_any (s : St) (w : World) : Calls Tryz.prog 186 #[.agg (uc s.list)] w fun e w' => e = .returned (.agg (hc s.bytes)) ∧ Below w.heap.size w w' := by
  go_enter Tryz.func186, Tryz.ntmps186
  go_wp2_with (first | refine wpList_boxA rfl _ rfl (uc s.list) rfl ?_ | refine wpList_allocA A25 rfl rfl ?_)
  obtain ⟨b0, b1, b2⟩ := blk3 w (.cells (uc s.list) 242) (.cells (hc zeros) 24) (.cells (hc zeros) 24)
  have R0 := hide (row_of (c := uc s.list) rfl b0 (fun i hi => st_at s i hi))
  have R1 := hide b1
  have R2 : Hid ((((w.alloc (.cells (uc s.list) 242)).alloc (.cells (hc zeros) 24)).alloc (.cells (hc zeros) 24)).rowIs (w.heap.size + 1 + 1) 24 32 (laF s (4 * 0))) := row_of (by rw [hc_size, zeros_len]) b2 (fun i hi => by
    rw [hc_at _ _ (by rw [zeros_len]; omega), by8, zeros, List.getD_eq_getElem?_getD, List.getElem?_replicate, if_pos hi]
    simp [laF])
  have BB := hide (below3 w (.cells (uc s.list) 242) (.cells (hc zeros) 24) (.cells (hc zeros) 24))
  clear b0 b1 b2
  go_loopw [6] (fun c wr => ∃ i : Nat, i ≤ 8 ∧ c = .int .i64 i ∧ Hid (wr.rowIs w.heap.size 242 8 (fun j => .int .u32 ((s.at j).toNat : Int))) ∧ Hid (wr.heap[w.heap.size + 1]? = some (.cells (hc zeros) 24 (0, 0))) ∧ Hid (wr.rowIs (w.heap.size + 1 + 1) 24 32 (laF s (4 * i))) ∧ Hid (Below w.heap.size w wr)) (fun c _ => (8 - intOf c).toNat)
  case atStart => exact ⟨0, by omega, rfl, R0, R1, R2, BB⟩
  case round =>
    clear R0 R1 R2 BB
    obtain ⟨i, hi, rfl, r0, r1, r2, bb⟩ := hrel
    by_cases hlt : i < 8
    · go_wp2
      go_loopw [9] (fun c wr => ∃ j : Nat, j ≤ 4 ∧ c = .int .i64 j ∧ Hid (wr.rowIs w.heap.size 242 8 (fun j => .int .u32 ((s.at j).toNat : Int))) ∧ Hid (wr.heap[w.heap.size + 1]? = some (.cells (hc zeros) 24 (0, 0))) ∧ Hid (wr.rowIs (w.heap.size + 1 + 1) 24 32 (laF s (4 * i + j))) ∧ Hid (Below w.heap.size w wr)) (fun c _ => (4 - intOf c).toNat)
      case atStart => exact ⟨0, by omega, rfl, r0, r1, r2, bb⟩
      case round =>
        clear r0 r1 r2 bb
        obtain ⟨j, hj, rfl, r0, r1, r2, bb⟩ := hrel
        by_cases hj4 : j < 4
        · have c0 := r0.out.cell hlt
          have c2 := r2.out.cell (show 4 * i + j < 32 by omega)
          have f2 := r2.out.frozen (4 * i + j)
          have e1 : (4 * (i : Int) + j).toNat = 4 * i + j := by omega
          have t0 : (0 : Int) ≤ i := by omega
          have t1 : (i : Int) < 8 := by omega
          have t2 : (0 : Int) ≤ 4 * i + j := by omega
          have t3 : 4 * (i : Int) + j < 32 := by omega
          have t4 : (0 : Int) ≤ 24 - 8 * j := by omega
          have t5 : (24 : Int) - 8 * j ≤ 32 := by omega
          go_wp2
          refine ⟨⟨j + 1, by omega, by go_num, hide (r0.out.setOther (by simp; omega) _), hide ((blk_setCell_other _ _ _ _ (by simp)).trans r1.out), hide ((r2.out.set _ _).congr (fun k hk => ?_)), hide (bb.out.setCell (by simp; omega) _)⟩, by simp [intOf]; omega⟩
          rw [sb_eq s i j hj4]
          exact laF_step s (4 * i + j) k
        · have hje : j = 4 := by omega
          subst hje
          go_wp2
          exact ⟨⟨i + 1, by omega, by go_num, r0, r1, r2, bb⟩, by simp [intOf]; omega⟩
    · have hie : i = 8 := by omega
      subst hie
      have H2 : wr.heap[w.heap.size + 1 + 1]? = some (.cells (hc s.bytes) 24 (0, 0)) := of_row (by rw [hc_size, bytes_len]) r2.out (fun i hi => by rw [bytes_at s i hi]; simp [laF, hi])
      go_wp2_with (first | refine wpList_loadA A25 rfl _ rfl _ rfl (hc s.bytes) (by rw [hc_size, bytes_len]) 24 H2 ?_ | refine wpList_storeA A25 rfl _ _ rfl _ (hc s.bytes) (by rw [hc_size, bytes_len]) (hc_one _) rfl rfl (hc zeros) (by rw [hc_size, zeros_len]) 24 r1.out ?_)
      exact bodyPost_ret (v := .agg (hc s.bytes)) (resA A25 Tryz.results186 _ _ (w.heap.size + 1) 24 _ (by rw [hc_size, bytes_len]) rfl (setRow_heap _ _ _ _ _ _ r1.out)) rfl ⟨rfl, below_setRow bb.out (by omega) _⟩
theorem rbytes_any (s : St) (w : World) : Calls Tryz.prog 151 #[.agg (uc s.list)] w fun e w' => e = .returned (.agg (hc s.bytes)) ∧ Below w.heap.size w w' := by
  go_enter Tryz.func151, Tryz.ntmps151
  go_wp2_with (first | refine wpList_boxA rfl _ rfl (uc s.list) rfl ?_ | refine wpList_allocA A24 rfl rfl ?_ | refine wpList_buildA A24 rfl rfl ?_ | refine wpList_store_newA A24 rfl _ _ rfl _ rfl (hc zeros) (by rw [hc_size, zeros_len]) (hc_one _) rfl rfl ?_)
  obtain ⟨b0, b1, b2⟩ := blk3 w (.cells (uc s.list) 226) (.cells (hc zeros) 23) (.cells (hc zeros) 23)
  have R0 := hide (row_of (c := uc s.list) rfl b0 (fun i hi => st_at s i hi))
  have R1 := hide b1
  have R2 : Hid ((((w.alloc (.cells (uc s.list) 226)).alloc (.cells (hc zeros) 23)).alloc (.cells (hc zeros) 23)).rowIs (w.heap.size + 1 + 1) 23 32 (laF s (4 * 0))) := row_of (by rw [hc_size, zeros_len]) b2 (fun i hi => by
    rw [hc_at _ _ (by rw [zeros_len]; omega), by8, zeros, List.getD_eq_getElem?_getD, List.getElem?_replicate, if_pos hi]
    simp [laF])
  have BB := hide (below3 w (.cells (uc s.list) 226) (.cells (hc zeros) 23) (.cells (hc zeros) 23))
  clear b0 b1 b2
  go_loopw [4] (fun c wr => ∃ i : Nat, i ≤ 8 ∧ c = .int .i64 i ∧ Hid (wr.rowIs w.heap.size 226 8 (fun j => .int .u32 ((s.at j).toNat : Int))) ∧ Hid (wr.heap[w.heap.size + 1]? = some (.cells (hc zeros) 23 (0, 0))) ∧ Hid (wr.rowIs (w.heap.size + 1 + 1) 23 32 (laF s (4 * i))) ∧ Hid (Below w.heap.size w wr)) (fun c _ => (8 - intOf c).toNat)
  case atStart => exact ⟨0, by omega, rfl, R0, R1, R2, BB⟩
  case round =>
    clear R0 R1 R2 BB
    obtain ⟨i, hi, rfl, r0, r1, r2, bb⟩ := hrel
    by_cases hlt : i < 8
    · go_wp2
      go_loopw [5] (fun c wr => ∃ j : Nat, j ≤ 4 ∧ c = .int .i64 j ∧ Hid (wr.rowIs w.heap.size 226 8 (fun j => .int .u32 ((s.at j).toNat : Int))) ∧ Hid (wr.heap[w.heap.size + 1]? = some (.cells (hc zeros) 23 (0, 0))) ∧ Hid (wr.rowIs (w.heap.size + 1 + 1) 23 32 (laF s (4 * i + j))) ∧ Hid (Below w.heap.size w wr)) (fun c _ => (4 - intOf c).toNat)
      case atStart => exact ⟨0, by omega, rfl, r0, r1, r2, bb⟩
      case round =>
        clear r0 r1 r2 bb
        obtain ⟨j, hj, rfl, r0, r1, r2, bb⟩ := hrel
        by_cases hj4 : j < 4
        · have c0 := r0.out.cell hlt
          have c2 := r2.out.cell (show 4 * i + j < 32 by omega)
          have f2 := r2.out.frozen (4 * i + j)
          have e1 : (4 * (i : Int) + j).toNat = 4 * i + j := by omega
          have t0 : (0 : Int) ≤ i := by omega
          have t1 : (i : Int) < 8 := by omega
          have t2 : (0 : Int) ≤ 4 * i + j := by omega
          have t3 : 4 * (i : Int) + j < 32 := by omega
          have t4 : (0 : Int) ≤ 24 - 8 * j := by omega
          have t5 : (24 : Int) - 8 * j ≤ 32 := by omega
          go_wp2
          refine ⟨⟨j + 1, by omega, by go_num, hide (r0.out.setOther (by simp; omega) _), hide ((blk_setCell_other _ _ _ _ (by simp)).trans r1.out), hide ((r2.out.set _ _).congr (fun k hk => ?_)), hide (bb.out.setCell (by simp; omega) _)⟩, by simp [intOf]; omega⟩
          rw [sb_eq s i j hj4]
          exact laF_step s (4 * i + j) k
        · have hje : j = 4 := by omega
          subst hje
          go_wp2
          exact ⟨⟨i + 1, by omega, by go_num, r0, r1, r2, bb⟩, by simp [intOf]; omega⟩
    · have hie : i = 8 := by omega
      subst hie
      have H2 : wr.heap[w.heap.size + 1 + 1]? = some (.cells (hc s.bytes) 23 (0, 0)) := of_row (by rw [hc_size, bytes_len]) r2.out (fun i hi => by rw [bytes_at s i hi]; simp [laF, hi])
      go_wp2_with (first | refine wpList_loadA A24 rfl _ rfl _ rfl (hc s.bytes) (by rw [hc_size, bytes_len]) 23 H2 ?_ | refine wpList_storeA A24 rfl _ _ rfl _ (hc s.bytes) (by rw [hc_size, bytes_len]) (hc_one _) rfl rfl (hc zeros) (by rw [hc_size, zeros_len]) 23 r1.out ?_)
      exact bodyPost_ret (v := .agg (hc s.bytes)) (resA A24 Tryz.results151 _ _ (w.heap.size + 1) 23 _ (by rw [hc_size, bytes_len]) rfl (setRow_heap _ _ _ _ _ _ r1.out)) rfl ⟨rfl, below_setRow bb.out (by omega) _⟩
end
end Go.Proofs.YtpffaaalncdjcaaGreatDoor
namespace Go.Proofs.YtpffaaalncdjcaaGreatDoor
open Go.RowKit
open Go.Deep
/-! ### Memory that is appended to -/
/-- w' is w but for v's own row and new blocks; v' lies in v's row or in a new block. -/
structure Onto (w w' : World) (v v' : Value) : Prop where
  grown : w.grownBy w' v.ownBlock
  lies : v'.ownBlock = v.ownBlock ∨ ∃ g, v'.ownBlock = some g ∧ w.heap.size ≤ g
theorem Onto.refl (w : World) (v : Value) : Onto w w v v := ⟨⟨rfl, rfl, rfl, Nat.le_refl _, fun _ _ _ => rfl⟩, .inl rfl⟩
theorem Onto.trans {w w1 w2 : World} {v v1 v2 : Value} (h : Onto w w1 v v1) (k : Onto w1 w2 v1 v2) : Onto w w2 v v2 := by
  obtain ⟨g, l⟩ := h
  obtain ⟨g', l'⟩ := k
  have hs := g.size
  refine ⟨⟨g'.os.trans g.os, g'.tape.trans g.tape, g'.output.trans g.output, Nat.le_trans hs g'.size, fun i hi hne => ?_⟩, ?_⟩
  · rw [g'.block i (by omega) ?_, g.block i hi hne]
    rcases l with l | ⟨b, l, hb⟩
    · rw [l]; exact hne
    · rw [l]; intro e; cases e; omega
  · rcases l' with l' | ⟨b, l', hb⟩
    · rw [l']; exact l
    · exact .inr ⟨b, l', by omega⟩
theorem Onto.alloc {w w' : World} {v v' : Value} (h : Onto w w' v v') (o : Obj) : Onto w (w'.alloc o) v v' := by
  obtain ⟨g, l⟩ := h
  refine ⟨⟨g.os, g.tape, g.output, by have := g.size; simp; omega, fun i hi hne => ?_⟩, l⟩
  rw [Below.heap_alloc _ _ _ (by have := g.size; omega)]
  exact g.block i hi hne
theorem Onto.drew {w w' : World} {v v' : Value} (h : Onto w w' v v') : Onto w w'.drew v v' := by
  obtain ⟨g, l⟩ := h
  exact ⟨⟨g.os, g.tape, g.output, g.size, g.block⟩, l⟩
theorem Onto.below {w w' : World} {v v' : Value} (h : Onto w w' v v') {B : Nat} (hB : B ≤ w.heap.size) (hv : ∀ k, v.ownBlock = some k → B ≤ k) : Below B w w' :=
  (Below.refl B w).grown h.grown hB hv
theorem Onto.far {w w' : World} {v v' : Value} (h : Onto w w' v v') {B : Nat} (hB : B ≤ w.heap.size) (hv : ∀ k, v.ownBlock = some k → B ≤ k) : ∀ k, v'.ownBlock = some k → B ≤ k := by
  intro k hk
  rcases h.lies with l | ⟨b, l, hb⟩
  · rw [l] at hk; exact hv k hk
  · rw [l] at hk; cases hk; omega
/-- v is a slice of bytes of the program's own making that holds l. -/
def Own (w : World) (v : Value) (l : List UInt8) : Prop := w.ownsRow 0 5 1 v l.length (cellsL l)
theorem Own.nil (w : World) : Own w (.slice none 0 0) [] := World.ownsRow_nil _ _ _ _

theorem Own.alloc {w : World} {v : Value} {l : List UInt8} (h : Own w v l) (o : Obj) : Own (w.alloc o) v l := World.ownsRow.alloc h o
theorem info5 : (Tryz.prog.info? 5).map (fun i => (i.zero, i.size, i.bytes)) = some (some (.int .u8 0), 1, 1) := by kernel_rfl

theorem run_app {w : World} {ty : TypeId} {v : Value} {l : List UInt8} (hown : Own w v l) (ad : Addr) (m c : Nat) (news : List UInt8) (hm : m = news.length) (hnews : ∀ j u, (cellsL news)[j]? = some u → w.cell? (ad.add j) = some u)
    (hsm : l.length + m ≤ 140737488355328) :
    ∃ v' w', (Builtin.append_ #[80, 80] ty #[v, .slice (some ad) m c]).run Tryz.prog w = .ok v' w' ∧ Own w' v' (l ++ news) ∧ Onto w w' v v' := by
  obtain ⟨i0, hi, hz0, hz1, hz2⟩ := info_parts info5
  obtain ⟨v', w', hr, h2, h3, _, h5⟩ := run_append_own_at (P := Tryz.prog) w 0 80 ty 5 i0 (.int .u8 0) 1 1 Tryz.underlying80 hi hz0 hz1 hz2 rfl (by decide) v l.length (cellsL l) hown ad m c (cellsL news) (by simp [cellsL_len, hm]) hnews
    (fun u hu => by simp only [cellsL, List.mem_map] at hu; obtain ⟨b, _, rfl⟩ := hu; rfl) (by unfold maxLen; omega) (by omega) (Nat.zero_le _)
  refine ⟨v', w', hr, ?_, ⟨h3, ?_⟩⟩
  · unfold Own
    rw [List.length_append, cellsL_app, ← hm]
    exact h2
  · rcases h5 with h5 | h5
    · exact .inl h5
    · exact .inr ⟨_, h5, Nat.le_refl _⟩
theorem wpList_app {w : World} {ops : Array Oper} {rest : List Oper} {o : Oper} {a : Act} {Q : Exit → Act → World → Prop} (hgd : o.guard = none) (s x : Operand)
    (ho : o.op = .call { callee := .builtin .append, args := #[s, x], argTypes := #[80, 80] })
    (v : Value) (l : List UInt8) (hs : a.eval s = v) (hown : Own w v l)
    (ad : Addr) (m c : Nat) (news : List UInt8) (hx : a.eval x = .slice (some ad) m c) (hm : m = news.length) (hnews : ∀ j u, (cellsL news)[j]? = some u → w.cell? (ad.add j) = some u) (hsm : l.length + m ≤ 140737488355328)
    (h : ∀ v' w', Own w' v' (l ++ news) → Onto w w' v v' → wpList Tryz.prog ops Q rest (a.put o.dst v') w') :
    wpList Tryz.prog ops Q (o :: rest) a w := by
  refine wpList_plain hgd fun K hK => ?_
  obtain ⟨v', w', hr, h2, h3⟩ := run_app (ty := o.type) hown ad m c news hm hnews hsm
  unfold Oper.wp execOp
  simp only [ho, resolve, invoke, builtin, Sem.run_bind, Sem.run_pure, Result.andThen_ok, List.map_toArray, List.map_cons, List.map_nil, hs, hx, hr]
  exact hK _ _ (h v' w' h2 h3)
/-- The one cell of a block that was just laid. -/
theorem one_new (w : World) (x : Int) (b : UInt8) (hx : x = b.toNat) : ∀ j u, (cellsL [b])[j]? = some u → (w.alloc (.cells #[.int .u8 x] 5)).cell? ((⟨w.heap.size, 0, none⟩ : Addr).add j) = some u := by
  subst hx
  exact cell_one_new _ _ _

/-- A slice of bytes of the program's own, turned into a string. -/
theorem conv_own {w : World} {v : Value} {l : List UInt8} (h : Own w v l) : (convert 80 9 v).run Tryz.prog w = .ok (.string ⟨l.toArray⟩) w := by
  rcases h.2 with ⟨rfl, h0⟩ | ⟨g, cap, cur, rfl, hb, hg, hn, hm, hsz, ht⟩
  · have : l = [] := List.eq_nil_of_length_eq_zero h0
    subst this
    exact run_convert_bytes_nil (P := Tryz.prog) w 80 5 Tryz.underlying80 Tryz.underlying5 0 0 9 Tryz.underlying9
  · refine run_convert_bytes_back (P := Tryz.prog) w 80 9 5 ⟨g, 0, none⟩ cap l Tryz.underlying80 Tryz.underlying5 Tryz.underlying9 ?_
    intro j hj
    refine World.ownsRow.cells h rfl j _ ?_
    simp [cellsL, hj]


theorem row_own {w : World} {g C : Nat} {f : Nat → Value} {l : List UInt8} (h : w.rowIs g 5 C f) (hl : l.length ≤ C) (hC : C ≤ maxLen) (hf : ∀ i (hi : i < l.length), f i = .int .u8 (l[i].toNat : Int)) : Own w (.slice (some ⟨g, 0, none⟩) l.length C) l := by
  obtain ⟨c, hb, hn, hc⟩ := h
  refine ⟨by simp [cellsL_len], .inr ⟨g, C, c, rfl, Nat.zero_le _, hb, hl, hC, by omega, ?_⟩⟩
  apply List.ext_getElem?
  intro i
  rw [Nat.mul_one, List.getElem?_take]
  by_cases hi : i < l.length
  · rw [if_pos hi, Array.getElem?_toList, hc i (by omega), hf i hi]
    simp [cellsL, hi]
  · rw [if_neg hi, List.getElem?_eq_none (by rw [cellsL_len]; omega)]
theorem wpList_make_at {w : World} {ops : Array Oper} {rest : List Oper} {o : Oper} {a : Act} {Q : Exit → Act → World → Prop} (hgd : o.guard = none) (l c : Operand) (hop : o.op = Op.makeSlice 80 l c)
    (kl kc : IntKind) (L C : Int) (n m : Nat) (hl : a.eval l = .int kl L) (hc : a.eval c = .int kc C) (hL : L = n) (hC : C = m) (hnm : n ≤ m) (hm : m ≤ 281474976710656)
    (h : ∀ w', w'.rowIs w.heap.size 5 m (fun _ => .int .u8 0) → Below w.heap.size w w' → wpList Tryz.prog ops Q rest (a.put o.dst (.slice (some ⟨w.heap.size, 0, none⟩) n m)) w') : wpList Tryz.prog ops Q (o :: rest) a w := by
  subst hL hC
  refine wpList_plain hgd fun K hK => ?_
  obtain ⟨i0, hi, hz0, hz1, hz2⟩ := info_parts info5
  have hr := run_make (P := Tryz.prog) w 80 5 i0 (.int .u8 0) Tryz.underlying80 hi hz0 kl kc n m (by omega) (by omega) (by rw [hz2]; omega) (by omega)
  rw [Int.toNat_natCast, Int.toNat_natCast, hz1, Nat.mul_one] at hr
  unfold Oper.wp
  simp only [execOp, hop, hl, hc, hr, Sem.run_bind, Result.andThen_ok, Sem.run_pure]
  exact hK _ _ (h _ (World.rowIs_made w _ m 5) ((Below.refl _ _).alloc (Nat.le_refl _) _))
theorem wrapu (x : Int) (h0 : 0 ≤ x) (h1 : x < 18446744073709551616) : IntKind.u64.wrap x = x := by
  simp only [IntKind.wrap, IntKind.signed, IntKind.bits]
  simp
  omega
theorem Own.form {w : World} {v : Value} {l : List UInt8} (h : Own w v l) : ∃ ao n c, v = .slice ao n c ∧ Hid (n = l.length) := by
  rcases h.2 with ⟨rfl, h0⟩ | ⟨g, cap, cur, rfl, _⟩
  · exact ⟨none, 0, 0, rfl, h0.symm⟩
  · exact ⟨_, _, _, rfl, rfl⟩
/-- How long a slice is. -/
def lenV : Value → Nat
  | .slice _ n _ => n
  | _ => 0
theorem Own.len {w : World} {v : Value} {l : List UInt8} (h : Own w v l) : lenV v = l.length := by
  obtain ⟨ao, n, c, rfl, hn⟩ := Own.form h
  exact hn.out
/-- How many zeros pad a text of n bytes. -/
def padZ (n : Nat) : Nat := (119 - n % 64) % 64
/-- The byte i of the length in bits. -/
def lenB (n i : Nat) : UInt8 := UInt8.ofNat (8 * n / 2 ^ (56 - 8 * i))
/-- The padding of which j bytes of the length stand. -/
def padP (n j : Nat) : List UInt8 := 128 :: (List.replicate (padZ n) 0 ++ (List.range j).map (lenB n))
theorem padP_len (n j : Nat) : (padP n j).length = 1 + padZ n + j := by simp [padP]; omega
theorem padP_snoc (n j : Nat) : padP n j ++ [lenB n j] = padP n (j + 1) := by simp [padP, List.range_succ]
/-- The padding of a text of n bytes. -/
def padL (n : Nat) : List UInt8 := padP n 8
theorem padZ_lt (n : Nat) : padZ n < 64 := by unfold padZ; omega
theorem lenB_eq (n i : Nat) : (8 * (n : Int)) / 2 ^ (56 - 8 * i) % 256 = ((lenB n i).toNat : Int) := by
  rw [lenB, UInt8.toNat_ofNat']
  simp
section
set_option maxRecDepth 10000
set_option maxHeartbeats 1000000
theorem pad_any (n : Nat) (hn : n < 2305843009213693952) (w : World) : Calls Tryz.prog 185 #[.int .u64 (n : Int)] w fun e w' => e = .returned (.string ⟨(padL n).toArray⟩) ∧ Below w.heap.size w w' := by
  have hz : (119 - (n : Int) % 64) % 64 = (padZ n : Int) := by unfold padZ; omega
  have hzl := padZ_lt n
  go_enter Tryz.func185, Tryz.ntmps185
  go_wp2_with (at_make; refine wpList_make_at rfl _ _ rfl _ _ _ _ (1 + padZ n) (9 + padZ n) rfl rfl (by omega) (by omega) (by omega) (by omega) ?_; intro w1 R1 B1; have c1 := R1.cell (show 0 < 9 + padZ n by omega); have f1 := R1.frozen 0; have R2 := hide R1; have B2 := hide B1; clear R1 B1)
  have O1 : Hid (Own (w1.setCell ⟨w.heap.size, 0, none⟩ (.int .u8 128)) (.slice (some ⟨w.heap.size, 0, none⟩) (padP n 0).length (9 + padZ n)) (padP n 0)) := by
    refine row_own (R2.out.set 0 _) (by rw [padP_len]; omega) (by unfold maxLen; omega) (fun i hi => ?_)
    rw [padP_len] at hi
    rcases i with _ | i
    · rfl
    · simp [padP]
  rw [padP_len] at O1
  have B3 := hide (B2.out.setCell (p := ⟨w.heap.size, 0, none⟩) (Nat.le_refl _) (.int .u8 128))
  clear R2 B2
  generalize w1.setCell ⟨w.heap.size, 0, none⟩ (.int .u8 128) = w2 at *
  go_loopw [4, 18] (fun v c wr => ∃ j : Nat, j ≤ 8 ∧ c = .int .i64 j ∧ Hid (Own wr v (padP n j)) ∧ Hid (Below w.heap.size w wr) ∧ Hid (∀ k, v.ownBlock = some k → w.heap.size ≤ k)) (fun _ c _ => (8 - intOf c).toNat)
  case atStart => exact ⟨0, by omega, rfl, O1, B3, fun k hk => by cases hk; exact Nat.le_refl _⟩
  case round =>
    clear O1 B3
    obtain ⟨j, hj, rfl, o, b, far⟩ := hrel
    by_cases hlt : j < 8
    · have hb := lenB_eq n j
      have t4 : (0 : Int) ≤ 56 - 8 * j := by omega
      have t5 : (56 : Int) - 8 * j ≤ 64 := by omega
      have e1 : ((56 : Int) - 8 * j).toNat = 56 - 8 * j := by omega
      have hb8 : IntKind.u64.wrap (8 * (n : Int)) = 8 * n := by simp only [IntKind.wrap, IntKind.signed, IntKind.bits]; simp; omega
      go_wp2_with (at_builtin; refine wpList_app rfl _ _ rfl u4 _ rfl (o.out.alloc _) ⟨wr.heap.size, 0, none⟩ 1 1 [lenB n j] rfl rfl (one_new _ _ _ hb) (by rw [padP_len]; omega) ?_; intro v' w3 hown' hon3)
      exact ⟨⟨j + 1, by omega, by go_num, by rw [← padP_snoc]; exact hown', hide (b.out.trans ((((Onto.refl _ _).alloc _).trans hon3).below b.out.size far.out)), hon3.far (by have := b.out.size; simp; omega) far.out⟩, by simp [intOf]; omega⟩
    · have hje : j = 8 := by omega
      subst hje
      have hcv := conv_own o.out
      go_wp2
      go_ret
      exact ⟨rfl, b.out⟩
theorem rpad_any (n : Nat) (hn : n < 2305843009213693952) (w : World) : Calls Tryz.prog 148 #[.int .u64 (n : Int)] w fun e w' => e = .returned (.string ⟨(padL n).toArray⟩) ∧ Below w.heap.size w w' := by
  have hzl := padZ_lt n
  go_enter Tryz.func148, Tryz.ntmps148
  go_wp2
  have O1 : Hid (Own (w.alloc (.cells #[.int .u8 128] 5)) (.slice (some ⟨w.heap.size, 0, none⟩) 1 1) [128]) :=
    row_own (l := [128]) (C := 1) (f := fun _ => .int .u8 128) ⟨_, heap_alloc_last _ _, rfl, fun i hi => by rcases i with _ | i; rfl; omega⟩ (by simp) (by unfold maxLen; omega) (fun i hi => by rcases i with _ | i; rfl; simp at hi)
  have B1 := hide ((Below.refl w.heap.size w).alloc (Nat.le_refl _) (.cells #[.int .u8 128] 5))
  go_loopw [3] (fun v wr => ∃ k : Nat, k ≤ padZ n ∧ Hid (Own wr v (128 :: List.replicate k 0)) ∧ Hid (Below w.heap.size w wr) ∧ Hid (∀ k, v.ownBlock = some k → w.heap.size ≤ k)) (fun v _ => (padZ n + 1 - lenV v))
  case atStart => exact ⟨0, by omega, O1, B1, fun k hk => by cases hk; exact Nat.le_refl _⟩
  case round =>
    clear O1 B1
    obtain ⟨k, hk, o, b, far⟩ := hrel
    obtain ⟨ao, m, c, rfl, hm0⟩ := Own.form o.out
    have hm : m = 1 + k := by
      have := hm0.out
      simpa [Nat.add_comm] using this
    subst hm
    clear hm0
    by_cases hlt : k < padZ n
    · have ht : (((n : Int) + ((1 + k : Nat) : Int)) % 64 == 56) = false := by
        rw [beq_eq_false_iff_ne]
        unfold padZ at hlt
        omega
      have hw1 : IntKind.u64.wrap (((1 + k : Nat) : Int)) = ((1 + k : Nat) : Int) := wrapu _ (by omega) (by omega)
      have hw2 : IntKind.u64.wrap ((n : Int) + ((1 + k : Nat) : Int)) = (n : Int) + ((1 + k : Nat) : Int) := wrapu _ (by omega) (by omega)
      go_wp2_with (at_builtin; refine wpList_app rfl _ _ rfl (.slice ao (1 + k) c) _ rfl (o.out.alloc _) ⟨wr.heap.size, 0, none⟩ 1 1 [0] rfl rfl (one_new _ _ _ rfl) (by simp; omega) ?_; intro v' w3 hown' hon3)
      have hlv := hown'.len
      refine ⟨⟨k + 1, by omega, ?_, hide (b.out.trans ((((Onto.refl _ _).alloc _).trans hon3).below b.out.size far.out)), hon3.far (by have := b.out.size; simp; omega) far.out⟩, ?_⟩
      · have e : (128 : UInt8) :: List.replicate k 0 ++ [0] = 128 :: List.replicate (k + 1) 0 := by
          rw [List.replicate_succ']; rfl
        rw [← e]
        exact hown'
      · rw [hlv]
        simp [lenV]
        omega
    · have hke : k = padZ n := by omega
      subst hke
      have ht : (((n : Int) + ((1 + padZ n : Nat) : Int)) % 64 == 56) = true := by
        rw [beq_iff_eq]
        unfold padZ
        omega
      have hw1 : IntKind.u64.wrap (((1 + padZ n : Nat) : Int)) = ((1 + padZ n : Nat) : Int) := wrapu _ (by omega) (by omega)
      have hw2 : IntKind.u64.wrap ((n : Int) + ((1 + padZ n : Nat) : Int)) = (n : Int) + ((1 + padZ n : Nat) : Int) := wrapu _ (by omega) (by omega)
      have O2 : Hid (Own wr (.slice ao (1 + padZ n) c) (padP n 0)) := by
        have := o.out
        simpa [Hid, padP] using this
      have ht2 : (((n : Int) + (1 + (padZ n : Int))) % 64 != 56) = false := by
        simp
        unfold padZ
        omega
      clear o ht
      go_wp2
      go_loopw [3, 5] (fun v i wr => ∃ j : Nat, j ≤ 8 ∧ i = .int .i64 (7 - (j : Int)) ∧ Hid (Own wr v (padP n j)) ∧ Hid (Below w.heap.size w wr) ∧ Hid (∀ k, v.ownBlock = some k → w.heap.size ≤ k)) (fun _ i _ => (1 + intOf i).toNat)
      case atStart => exact ⟨0, by omega, rfl, O2, b, far⟩
      case round =>
        clear O2 b far
        obtain ⟨j, hj, rfl, o, b, far⟩ := hrel
        by_cases hlt : j < 8
        · have hb := lenB_eq n j
          have t3 : (0 : Int) ≤ 7 - j := by omega
          have t4 : (0 : Int) ≤ 8 * (7 - j) := by omega
          have t5 : (8 : Int) * (7 - j) ≤ 64 := by omega
          have e1 : ((8 : Int) * (7 - j)).toNat = 56 - 8 * j := by omega
          have hb8 : IntKind.u64.wrap (8 * (n : Int)) = 8 * n := wrapu _ (by omega) (by omega)
          go_wp2_with (at_builtin; refine wpList_app rfl _ _ rfl u3 _ rfl (o.out.alloc _) ⟨wr.heap.size, 0, none⟩ 1 1 [lenB n j] rfl rfl (one_new _ _ _ hb) (by rw [padP_len]; omega) ?_; intro v' w3 hown' hon3)
          exact ⟨⟨j + 1, by omega, by congr 1; omega, by rw [← padP_snoc]; exact hown', hide (b.out.trans ((((Onto.refl _ _).alloc _).trans hon3).below b.out.size far.out)), hon3.far (by have := b.out.size; simp; omega) far.out⟩, by simp [intOf]; omega⟩
        · have hje : j = 8 := by omega
          subst hje
          have hcv := conv_own o.out
          have h7 : ¬ (0 : Int) ≤ 7 - ((8 : Nat) : Int) := by omega
          go_wp2
          go_ret
          exact ⟨rfl, b.out⟩
end
end Go.Proofs.YtpffaaalncdjcaaGreatDoor
