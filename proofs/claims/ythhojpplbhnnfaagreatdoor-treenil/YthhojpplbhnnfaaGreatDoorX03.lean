/- The first state, and a state's bytes: the contracts of First, laid, and the document's First and Bytes. Bytes that are appended; the padding: the contracts of Pad and of the document's Pad. -/
import Derived.Test.YthhojpplbhnnfaaGreatDoorX02
namespace Go.Proofs.YthhojpplbhnnfaaGreatDoor
open Go.RowKit
open Go.Deep
/-- The byte j of a word, the highest first. -/
def wb (x : UInt32) (j : Nat) : UInt8 := UInt8.ofNat (x.toNat / 2 ^ (24 - 8 * j))
/-- The byte k of a state. -/
def sb (s : St) (k : Nat) : UInt8 := wb (s.at (k / 4)) (k % 4)
/-- A state's bytes. -/
def St.bytes (s : St) : List UInt8 := (List.range 32).map (sb s)
theorem bytes_len (s : St) : s.bytes.length = 32 := by simp [St.bytes]
theorem bytes_at (s : St) (k : Nat) (h : k < 32) : (hc s.bytes)[k]? = some (.int .u8 ((sb s k).toNat : Int)) := by
  rw [hc_at _ _ (by rw [bytes_len]; exact h)]
  simp [by8, St.bytes, h]
/-- The bytes while they are laid: n of them stand. -/
def laF (s : St) (n j : Nat) : Value := .int .u8 (if j < n then ((sb s j).toNat : Int) else 0)
theorem laF_step (s : St) (n j : Nat) : (if j = n then Value.int .u8 ((sb s n).toNat : Int) else laF s n j) = laF s (n + 1) j := by
  unfold laF
  by_cases e : j = n
  · subst e
    rw [if_pos rfl, if_pos (by omega)]
  · rw [if_neg e]
    by_cases e2 : j < n
    · rw [if_pos e2, if_pos (by omega)]
    · rw [if_neg e2, if_neg (by omega)]
theorem sb_eq (s : St) (i j : Nat) (hj : j < 4) : ((s.at i).toNat : Int) / 2 ^ (24 - 8 * j) % 256 = ((sb s (4 * i + j)).toNat : Int) := by
  have e1 : (4 * i + j) / 4 = i := by omega
  have e2 : (4 * i + j) % 4 = j := by omega
  rw [sb, e1, e2, wb, UInt8.toNat_ofNat']
  simp
section
set_option maxRecDepth 10000
set_option maxHeartbeats 1000000
theorem first_any (w : World) : Calls Tryz.prog 130 #[] w fun e w' => e = .returned (.agg (uc first.list)) ∧ Below w.heap.size w w' := by
  go_enter Tryz.func130, Tryz.ntmps130
  go_wp2_with (first | refine wpList_allocA A31 rfl rfl ?_ | refine wpList_store_newA A31 rfl _ _ rfl _ rfl (uc first.list) rfl (uc_one _) rfl rfl ?_)
  exact bodyPost_ret (v := .agg (uc first.list)) (resA A31 Tryz.results130 _ _ w.heap.size 208 _ rfl rfl (heap_alloc_last _ _)) rfl ⟨rfl, (Below.refl _ _).alloc (Nat.le_refl _) _⟩
theorem rfirst_any (w : World) : Calls Tryz.prog 196 #[] w fun e w' => e = .returned (.agg (uc first.list)) ∧ Below w.heap.size w w' := by
  go_enter Tryz.func196, Tryz.ntmps196
  go_wp2_with (first | refine wpList_allocA A30 rfl rfl ?_ | refine wpList_store_newA A30 rfl _ _ rfl _ rfl (uc first.list) rfl (uc_one _) rfl rfl ?_)
  exact bodyPost_ret (v := .agg (uc first.list)) (resA A30 Tryz.results196 _ _ w.heap.size 207 _ rfl rfl (heap_alloc_last _ _)) rfl ⟨rfl, (Below.refl _ _).alloc (Nat.le_refl _) _⟩
theorem laid_any (s : St) (w : World) : Calls Tryz.prog 177 #[.agg (uc s.list)] w fun e w' => e = .returned (.agg (hc s.bytes)) ∧ Below w.heap.size w w' := by
  go_enter Tryz.func177, Tryz.ntmps177
  go_wp2_with (first | refine wpList_boxA rfl _ rfl (uc s.list) rfl ?_ | refine wpList_allocA A25 rfl rfl ?_)
  obtain ⟨b0, b1, b2⟩ := blk3 w (.cells (uc s.list) 208) (.cells (hc zeros) 46) (.cells (hc zeros) 46)
  have R0 := hide (row_of (c := uc s.list) rfl b0 (fun i hi => st_at s i hi))
  have R1 := hide b1
  have R2 : Hid ((((w.alloc (.cells (uc s.list) 208)).alloc (.cells (hc zeros) 46)).alloc (.cells (hc zeros) 46)).rowIs (w.heap.size + 1 + 1) 46 32 (laF s (4 * 0))) := row_of (by rw [hc_size, zeros_len]) b2 (fun i hi => by
    rw [hc_at _ _ (by rw [zeros_len]; omega), by8, zeros, List.getD_eq_getElem?_getD, List.getElem?_replicate, if_pos hi]
    simp [laF])
  have BB := hide (below3 w (.cells (uc s.list) 208) (.cells (hc zeros) 46) (.cells (hc zeros) 46))
  clear b0 b1 b2
  go_loopw [6] (fun c wr => ∃ i : Nat, i ≤ 8 ∧ c = .int .i64 i ∧ Hid (wr.rowIs w.heap.size 208 8 (fun j => .int .u32 ((s.at j).toNat : Int))) ∧ Hid (wr.heap[w.heap.size + 1]? = some (.cells (hc zeros) 46 (0, 0))) ∧ Hid (wr.rowIs (w.heap.size + 1 + 1) 46 32 (laF s (4 * i))) ∧ Hid (Below w.heap.size w wr)) (fun c _ => (8 - intOf c).toNat)
  case atStart => exact ⟨0, by omega, rfl, R0, R1, R2, BB⟩
  case round =>
    clear R0 R1 R2 BB
    obtain ⟨i, hi, rfl, r0, r1, r2, bb⟩ := hrel
    by_cases hlt : i < 8
    · go_wp2
      go_loopw [9] (fun c wr => ∃ j : Nat, j ≤ 4 ∧ c = .int .i64 j ∧ Hid (wr.rowIs w.heap.size 208 8 (fun j => .int .u32 ((s.at j).toNat : Int))) ∧ Hid (wr.heap[w.heap.size + 1]? = some (.cells (hc zeros) 46 (0, 0))) ∧ Hid (wr.rowIs (w.heap.size + 1 + 1) 46 32 (laF s (4 * i + j))) ∧ Hid (Below w.heap.size w wr)) (fun c _ => (4 - intOf c).toNat)
      case atStart => exact ⟨0, by omega, rfl, r0, r1, r2, bb⟩
      case round =>
        clear r0 r1 r2 bb
        obtain ⟨j, hj, rfl, r0, r1, r2, bb⟩ := hrel
        by_cases hj4 : j < 4
        · have c0 := r0.out.cell hlt
          have c2 := r2.out.cell (show 4 * i + j < 32 by omega)
          have f2 := r2.out.frozen (4 * i + j)
          have e1 : (4 * (i : Int) + j).toNat = 4 * i + j := by omega
          have t0 : (0 : Int) ≤ i := by omega
          have t1 : (i : Int) < 8 := by omega
          have t2 : (0 : Int) ≤ 4 * i + j := by omega
          have t3 : 4 * (i : Int) + j < 32 := by omega
          have t4 : (0 : Int) ≤ 24 - 8 * j := by omega
          have t5 : (24 : Int) - 8 * j ≤ 32 := by omega
          go_wp2
          refine ⟨⟨j + 1, by omega, by go_num, hide (r0.out.setOther (by simp; omega) _), hide ((blk_setCell_other _ _ _ _ (by simp)).trans r1.out), hide ((r2.out.set _ _).congr (fun k hk => ?_)), hide (bb.out.setCell (by simp; omega) _)⟩, by simp [intOf]; omega⟩
          rw [sb_eq s i j hj4]
          exact laF_step s (4 * i + j) k
        · have hje : j = 4 := by omega
          subst hje
          go_wp2
          exact ⟨⟨i + 1, by omega, by go_num, r0, r1, r2, bb⟩, by simp [intOf]; omega⟩
    · have hie : i = 8 := by omega
      subst hie
      have H2 : wr.heap[w.heap.size + 1 + 1]? = some (.cells (hc s.bytes) 46 (0, 0)) := of_row (by rw [hc_size, bytes_len]) r2.out (fun i hi => by rw [bytes_at s i hi]; simp [laF, hi])
      go_wp2_with (first | refine wpList_loadA A25 rfl _ rfl _ rfl (hc s.bytes) (by rw [hc_size, bytes_len]) 46 H2 ?_ | refine wpList_storeA A25 rfl _ _ rfl _ (hc s.bytes) (by rw [hc_size, bytes_len]) (hc_one _) rfl rfl (hc zeros) (by rw [hc_size, zeros_len]) 46 r1.out ?_)
      exact bodyPost_ret (v := .agg (hc s.bytes)) (resA A25 Tryz.results177 _ _ (w.heap.size + 1) 46 _ (by rw [hc_size, bytes_len]) rfl (setRow_heap _ _ _ _ _ _ r1.out)) rfl ⟨rfl, below_setRow bb.out (by omega) _⟩
theorem rbytes_any (s : St) (w : World) : Calls Tryz.prog 198 #[.agg (uc s.list)] w fun e w' => e = .returned (.agg (hc s.bytes)) ∧ Below w.heap.size w w' := by
  go_enter Tryz.func198, Tryz.ntmps198
  go_wp2_with (first | refine wpList_boxA rfl _ rfl (uc s.list) rfl ?_ | refine wpList_allocA A24 rfl rfl ?_ | refine wpList_buildA A24 rfl rfl ?_ | refine wpList_store_newA A24 rfl _ _ rfl _ rfl (hc zeros) (by rw [hc_size, zeros_len]) (hc_one _) rfl rfl ?_)
  obtain ⟨b0, b1, b2⟩ := blk3 w (.cells (uc s.list) 207) (.cells (hc zeros) 45) (.cells (hc zeros) 45)
  have R0 := hide (row_of (c := uc s.list) rfl b0 (fun i hi => st_at s i hi))
  have R1 := hide b1
  have R2 : Hid ((((w.alloc (.cells (uc s.list) 207)).alloc (.cells (hc zeros) 45)).alloc (.cells (hc zeros) 45)).rowIs (w.heap.size + 1 + 1) 45 32 (laF s (4 * 0))) := row_of (by rw [hc_size, zeros_len]) b2 (fun i hi => by
    rw [hc_at _ _ (by rw [zeros_len]; omega), by8, zeros, List.getD_eq_getElem?_getD, List.getElem?_replicate, if_pos hi]
    simp [laF])
  have BB := hide (below3 w (.cells (uc s.list) 207) (.cells (hc zeros) 45) (.cells (hc zeros) 45))
  clear b0 b1 b2
  go_loopw [4] (fun c wr => ∃ i : Nat, i ≤ 8 ∧ c = .int .i64 i ∧ Hid (wr.rowIs w.heap.size 207 8 (fun j => .int .u32 ((s.at j).toNat : Int))) ∧ Hid (wr.heap[w.heap.size + 1]? = some (.cells (hc zeros) 45 (0, 0))) ∧ Hid (wr.rowIs (w.heap.size + 1 + 1) 45 32 (laF s (4 * i))) ∧ Hid (Below w.heap.size w wr)) (fun c _ => (8 - intOf c).toNat)
  case atStart => exact ⟨0, by omega, rfl, R0, R1, R2, BB⟩
  case round =>
    clear R0 R1 R2 BB
    obtain ⟨i, hi, rfl, r0, r1, r2, bb⟩ := hrel
    by_cases hlt : i < 8
    · go_wp2
      go_loopw [5] (fun c wr => ∃ j : Nat, j ≤ 4 ∧ c = .int .i64 j ∧ Hid (wr.rowIs w.heap.size 207 8 (fun j => .int .u32 ((s.at j).toNat : Int))) ∧ Hid (wr.heap[w.heap.size + 1]? = some (.cells (hc zeros) 45 (0, 0))) ∧ Hid (wr.rowIs (w.heap.size + 1 + 1) 45 32 (laF s (4 * i + j))) ∧ Hid (Below w.heap.size w wr)) (fun c _ => (4 - intOf c).toNat)
      case atStart => exact ⟨0, by omega, rfl, r0, r1, r2, bb⟩
      case round =>
        clear r0 r1 r2 bb
        obtain ⟨j, hj, rfl, r0, r1, r2, bb⟩ := hrel
        by_cases hj4 : j < 4
        · have c0 := r0.out.cell hlt
          have c2 := r2.out.cell (show 4 * i + j < 32 by omega)
          have f2 := r2.out.frozen (4 * i + j)
          have e1 : (4 * (i : Int) + j).toNat = 4 * i + j := by omega
          have t0 : (0 : Int) ≤ i := by omega
          have t1 : (i : Int) < 8 := by omega
          have t2 : (0 : Int) ≤ 4 * i + j := by omega
          have t3 : 4 * (i : Int) + j < 32 := by omega
          have t4 : (0 : Int) ≤ 24 - 8 * j := by omega
          have t5 : (24 : Int) - 8 * j ≤ 32 := by omega
          go_wp2
          refine ⟨⟨j + 1, by omega, by go_num, hide (r0.out.setOther (by simp; omega) _), hide ((blk_setCell_other _ _ _ _ (by simp)).trans r1.out), hide ((r2.out.set _ _).congr (fun k hk => ?_)), hide (bb.out.setCell (by simp; omega) _)⟩, by simp [intOf]; omega⟩
          rw [sb_eq s i j hj4]
          exact laF_step s (4 * i + j) k
        · have hje : j = 4 := by omega
          subst hje
          go_wp2
          exact ⟨⟨i + 1, by omega, by go_num, r0, r1, r2, bb⟩, by simp [intOf]; omega⟩
    · have hie : i = 8 := by omega
      subst hie
      have H2 : wr.heap[w.heap.size + 1 + 1]? = some (.cells (hc s.bytes) 45 (0, 0)) := of_row (by rw [hc_size, bytes_len]) r2.out (fun i hi => by rw [bytes_at s i hi]; simp [laF, hi])
      go_wp2_with (first | refine wpList_loadA A24 rfl _ rfl _ rfl (hc s.bytes) (by rw [hc_size, bytes_len]) 45 H2 ?_ | refine wpList_storeA A24 rfl _ _ rfl _ (hc s.bytes) (by rw [hc_size, bytes_len]) (hc_one _) rfl rfl (hc zeros) (by rw [hc_size, zeros_len]) 45 r1.out ?_)
      exact bodyPost_ret (v := .agg (hc s.bytes)) (resA A24 Tryz.results198 _ _ (w.heap.size + 1) 45 _ (by rw [hc_size, bytes_len]) rfl (setRow_heap _ _ _ _ _ _ r1.out)) rfl ⟨rfl, below_setRow bb.out (by omega) _⟩
end
end Go.Proofs.YthhojpplbhnnfaaGreatDoor
namespace Go.Proofs.YthhojpplbhnnfaaGreatDoor
open Go.RowKit
open Go.Deep
/-! ### Memory that is appended to -/
/-- w' is w but for v's own row and new blocks; v' lies in v's row or in a new block. -/
structure Onto (w w' : World) (v v' : Value) : Prop where
  grown : w.grownBy w' v.ownBlock
  lies : v'.ownBlock = v.ownBlock ∨ ∃ g, v'.ownBlock = some g ∧ w.heap.size ≤ g
theorem Onto.refl (w : World) (v : Value) : Onto w w v v := ⟨⟨rfl, rfl, rfl, Nat.le_refl _, fun _ _ _ => rfl⟩, .inl rfl⟩
theorem Onto.trans {w w1 w2 : World} {v v1 v2 : Value} (h : Onto w w1 v v1) (k : Onto w1 w2 v1 v2) : Onto w w2 v v2 := by
  obtain ⟨g, l⟩ := h
  obtain ⟨g', l'⟩ := k
  have hs := g.size
  refine ⟨⟨g'.os.trans g.os, g'.tape.trans g.tape, g'.output.trans g.output, Nat.le_trans hs g'.size, fun i hi hne => ?_⟩, ?_⟩
  · rw [g'.block i (by omega) ?_, g.block i hi hne]
    rcases l with l | ⟨b, l, hb⟩
    · rw [l]; exact hne
    · rw [l]; intro e; cases e; omega
  · rcases l' with l' | ⟨b, l', hb⟩
    · rw [l']; exact l
    · exact .inr ⟨b, l', by omega⟩
theorem Onto.alloc {w w' : World} {v v' : Value} (h : Onto w w' v v') (o : Obj) : Onto w (w'.alloc o) v v' := by
  obtain ⟨g, l⟩ := h
  refine ⟨⟨g.os, g.tape, g.output, by have := g.size; simp; omega, fun i hi hne => ?_⟩, l⟩
  rw [Below.heap_alloc _ _ _ (by have := g.size; omega)]
  exact g.block i hi hne
theorem Onto.drew {w w' : World} {v v' : Value} (h : Onto w w' v v') : Onto w w'.drew v v' := by
  obtain ⟨g, l⟩ := h
  exact ⟨⟨g.os, g.tape, g.output, g.size, g.block⟩, l⟩
theorem Onto.below {w w' : World} {v v' : Value} (h : Onto w w' v v') {B : Nat} (hB : B ≤ w.heap.size) (hv : ∀ k, v.ownBlock = some k → B ≤ k) : Below B w w' :=
  (Below.refl B w).grown h.grown hB hv
theorem Onto.far {w w' : World} {v v' : Value} (h : Onto w w' v v') {B : Nat} (hB : B ≤ w.heap.size) (hv : ∀ k, v.ownBlock = some k → B ≤ k) : ∀ k, v'.ownBlock = some k → B ≤ k := by
  intro k hk
  rcases h.lies with l | ⟨b, l, hb⟩
  · rw [l] at hk; exact hv k hk
  · rw [l] at hk; cases hk; omega
/-- v is a slice of bytes of the program's own making that holds l. -/
def Own (w : World) (v : Value) (l : List UInt8) : Prop := w.ownsRow 0 5 1 v l.length (cellsL l)
theorem Own.nil (w : World) : Own w (.slice none 0 0) [] := World.ownsRow_nil _ _ _ _

theorem Own.alloc {w : World} {v : Value} {l : List UInt8} (h : Own w v l) (o : Obj) : Own (w.alloc o) v l := World.ownsRow.alloc h o
theorem info5 : (Tryz.prog.info? 5).map (fun i => (i.zero, i.size, i.bytes)) = some (some (.int .u8 0), 1, 1) := by kernel_rfl

theorem run_app {w : World} {ty : TypeId} {v : Value} {l : List UInt8} (hown : Own w v l) (ad : Addr) (m c : Nat) (news : List UInt8) (hm : m = news.length) (hnews : ∀ j u, (cellsL news)[j]? = some u → w.cell? (ad.add j) = some u)
    (hsm : l.length + m ≤ 140737488355328) :
    ∃ v' w', (Builtin.append_ #[198, 198] ty #[v, .slice (some ad) m c]).run Tryz.prog w = .ok v' w' ∧ Own w' v' (l ++ news) ∧ Onto w w' v v' := by
  obtain ⟨i0, hi, hz0, hz1, hz2⟩ := info_parts info5
  obtain ⟨v', w', hr, h2, h3, _, h5⟩ := run_append_own_at (P := Tryz.prog) w 0 198 ty 5 i0 (.int .u8 0) 1 1 Tryz.underlying198 hi hz0 hz1 hz2 rfl (by decide) v l.length (cellsL l) hown ad m c (cellsL news) (by simp [cellsL_len, hm]) hnews
    (fun u hu => by simp only [cellsL, List.mem_map] at hu; obtain ⟨b, _, rfl⟩ := hu; rfl) (by unfold maxLen; omega) (by omega) (Nat.zero_le _)
  refine ⟨v', w', hr, ?_, ⟨h3, ?_⟩⟩
  · unfold Own
    rw [List.length_append, cellsL_app, ← hm]
    exact h2
  · rcases h5 with h5 | h5
    · exact .inl h5
    · exact .inr ⟨_, h5, Nat.le_refl _⟩
theorem wpList_app {w : World} {ops : Array Oper} {rest : List Oper} {o : Oper} {a : Act} {Q : Exit → Act → World → Prop} (hgd : o.guard = none) (s x : Operand)
    (ho : o.op = .call { callee := .builtin .append, args := #[s, x], argTypes := #[198, 198] })
    (v : Value) (l : List UInt8) (hs : a.eval s = v) (hown : Own w v l)
    (ad : Addr) (m c : Nat) (news : List UInt8) (hx : a.eval x = .slice (some ad) m c) (hm : m = news.length) (hnews : ∀ j u, (cellsL news)[j]? = some u → w.cell? (ad.add j) = some u) (hsm : l.length + m ≤ 140737488355328)
    (h : ∀ v' w', Own w' v' (l ++ news) → Onto w w' v v' → wpList Tryz.prog ops Q rest (a.put o.dst v') w') :
    wpList Tryz.prog ops Q (o :: rest) a w := by
  refine wpList_plain hgd fun K hK => ?_
  obtain ⟨v', w', hr, h2, h3⟩ := run_app (ty := o.type) hown ad m c news hm hnews hsm
  unfold Oper.wp execOp
  simp only [ho, resolve, invoke, builtin, Sem.run_bind, Sem.run_pure, Result.andThen_ok, List.map_toArray, List.map_cons, List.map_nil, hs, hx, hr]
  exact hK _ _ (h v' w' h2 h3)
/-- The one cell of a block that was just laid. -/
theorem one_new (w : World) (x : Int) (b : UInt8) (hx : x = b.toNat) : ∀ j u, (cellsL [b])[j]? = some u → (w.alloc (.cells #[.int .u8 x] 5)).cell? ((⟨w.heap.size, 0, none⟩ : Addr).add j) = some u := by
  subst hx
  exact cell_one_new _ _ _

/-- A slice of bytes of the program's own, turned into a string. -/
theorem conv_own {w : World} {v : Value} {l : List UInt8} (h : Own w v l) : (convert 198 9 v).run Tryz.prog w = .ok (.string ⟨l.toArray⟩) w := by
  rcases h.2 with ⟨rfl, h0⟩ | ⟨g, cap, cur, rfl, hb, hg, hn, hm, hsz, ht⟩
  · have : l = [] := List.eq_nil_of_length_eq_zero h0
    subst this
    exact run_convert_bytes_nil (P := Tryz.prog) w 198 5 Tryz.underlying198 Tryz.underlying5 0 0 9 Tryz.underlying9
  · refine run_convert_bytes_back (P := Tryz.prog) w 198 9 5 ⟨g, 0, none⟩ cap l Tryz.underlying198 Tryz.underlying5 Tryz.underlying9 ?_
    intro j hj
    refine World.ownsRow.cells h rfl j _ ?_
    simp [cellsL, hj]


theorem row_own {w : World} {g C : Nat} {f : Nat → Value} {l : List UInt8} (h : w.rowIs g 5 C f) (hl : l.length ≤ C) (hC : C ≤ maxLen) (hf : ∀ i (hi : i < l.length), f i = .int .u8 (l[i].toNat : Int)) : Own w (.slice (some ⟨g, 0, none⟩) l.length C) l := by
  obtain ⟨c, hb, hn, hc⟩ := h
  refine ⟨by simp [cellsL_len], .inr ⟨g, C, c, rfl, Nat.zero_le _, hb, hl, hC, by omega, ?_⟩⟩
  apply List.ext_getElem?
  intro i
  rw [Nat.mul_one, List.getElem?_take]
  by_cases hi : i < l.length
  · rw [if_pos hi, Array.getElem?_toList, hc i (by omega), hf i hi]
    simp [cellsL, hi]
  · rw [if_neg hi, List.getElem?_eq_none (by rw [cellsL_len]; omega)]
theorem wpList_make_at {w : World} {ops : Array Oper} {rest : List Oper} {o : Oper} {a : Act} {Q : Exit → Act → World → Prop} (hgd : o.guard = none) (l c : Operand) (hop : o.op = Op.makeSlice 198 l c)
    (kl kc : IntKind) (L C : Int) (n m : Nat) (hl : a.eval l = .int kl L) (hc : a.eval c = .int kc C) (hL : L = n) (hC : C = m) (hnm : n ≤ m) (hm : m ≤ 281474976710656)
    (h : ∀ w', w'.rowIs w.heap.size 5 m (fun _ => .int .u8 0) → Below w.heap.size w w' → wpList Tryz.prog ops Q rest (a.put o.dst (.slice (some ⟨w.heap.size, 0, none⟩) n m)) w') : wpList Tryz.prog ops Q (o :: rest) a w := by
  subst hL hC
  refine wpList_plain hgd fun K hK => ?_
  obtain ⟨i0, hi, hz0, hz1, hz2⟩ := info_parts info5
  have hr := run_make (P := Tryz.prog) w 198 5 i0 (.int .u8 0) Tryz.underlying198 hi hz0 kl kc n m (by omega) (by omega) (by rw [hz2]; omega) (by omega)
  rw [Int.toNat_natCast, Int.toNat_natCast, hz1, Nat.mul_one] at hr
  unfold Oper.wp
  simp only [execOp, hop, hl, hc, hr, Sem.run_bind, Result.andThen_ok, Sem.run_pure]
  exact hK _ _ (h _ (World.rowIs_made w _ m 5) ((Below.refl _ _).alloc (Nat.le_refl _) _))
theorem wrapu (x : Int) (h0 : 0 ≤ x) (h1 : x < 18446744073709551616) : IntKind.u64.wrap x = x := by
  simp only [IntKind.wrap, IntKind.signed, IntKind.bits]
  simp
  omega
theorem Own.form {w : World} {v : Value} {l : List UInt8} (h : Own w v l) : ∃ ao n c, v = .slice ao n c ∧ Hid (n = l.length) := by
  rcases h.2 with ⟨rfl, h0⟩ | ⟨g, cap, cur, rfl, _⟩
  · exact ⟨none, 0, 0, rfl, h0.symm⟩
  · exact ⟨_, _, _, rfl, rfl⟩
/-- How long a slice is. -/
def lenV : Value → Nat
  | .slice _ n _ => n
  | _ => 0
theorem Own.len {w : World} {v : Value} {l : List UInt8} (h : Own w v l) : lenV v = l.length := by
  obtain ⟨ao, n, c, rfl, hn⟩ := Own.form h
  exact hn.out
/-- How many zeros pad a text of n bytes. -/
def padZ (n : Nat) : Nat := (119 - n % 64) % 64
/-- The byte i of the length in bits. -/
def lenB (n i : Nat) : UInt8 := UInt8.ofNat (8 * n / 2 ^ (56 - 8 * i))
/-- The padding of which j bytes of the length stand. -/
def padP (n j : Nat) : List UInt8 := 128 :: (List.replicate (padZ n) 0 ++ (List.range j).map (lenB n))
theorem padP_len (n j : Nat) : (padP n j).length = 1 + padZ n + j := by simp [padP]; omega
theorem padP_snoc (n j : Nat) : padP n j ++ [lenB n j] = padP n (j + 1) := by simp [padP, List.range_succ]
/-- The padding of a text of n bytes. -/
def padL (n : Nat) : List UInt8 := padP n 8
theorem padZ_lt (n : Nat) : padZ n < 64 := by unfold padZ; omega
theorem lenB_eq (n i : Nat) : (8 * (n : Int)) / 2 ^ (56 - 8 * i) % 256 = ((lenB n i).toNat : Int) := by
  rw [lenB, UInt8.toNat_ofNat']
  simp
section
set_option maxRecDepth 10000
set_option maxHeartbeats 1000000
theorem pad_any (n : Nat) (hn : n < 2305843009213693952) (w : World) : Calls Tryz.prog 176 #[.int .u64 (n : Int)] w fun e w' => e = .returned (.string ⟨(padL n).toArray⟩) ∧ Below w.heap.size w w' := by
  have hz : (119 - (n : Int) % 64) % 64 = (padZ n : Int) := by unfold padZ; omega
  have hzl := padZ_lt n
  go_enter Tryz.func176, Tryz.ntmps176
  go_wp2_with (at_make; refine wpList_make_at rfl _ _ rfl _ _ _ _ (1 + padZ n) (9 + padZ n) rfl rfl (by omega) (by omega) (by omega) (by omega) ?_; intro w1 R1 B1; have c1 := R1.cell (show 0 < 9 + padZ n by omega); have f1 := R1.frozen 0; have R2 := hide R1; have B2 := hide B1; clear R1 B1)
  have O1 : Hid (Own (w1.setCell ⟨w.heap.size, 0, none⟩ (.int .u8 128)) (.slice (some ⟨w.heap.size, 0, none⟩) (padP n 0).length (9 + padZ n)) (padP n 0)) := by
    refine row_own (R2.out.set 0 _) (by rw [padP_len]; omega) (by unfold maxLen; omega) (fun i hi => ?_)
    rw [padP_len] at hi
    rcases i with _ | i
    · rfl
    · simp [padP]
  rw [padP_len] at O1
  have B3 := hide (B2.out.setCell (p := ⟨w.heap.size, 0, none⟩) (Nat.le_refl _) (.int .u8 128))
  clear R2 B2
  generalize w1.setCell ⟨w.heap.size, 0, none⟩ (.int .u8 128) = w2 at *
  go_loopw [4, 18] (fun v c wr => ∃ j : Nat, j ≤ 8 ∧ c = .int .i64 j ∧ Hid (Own wr v (padP n j)) ∧ Hid (Below w.heap.size w wr) ∧ Hid (∀ k, v.ownBlock = some k → w.heap.size ≤ k)) (fun _ c _ => (8 - intOf c).toNat)
  case atStart => exact ⟨0, by omega, rfl, O1, B3, fun k hk => by cases hk; exact Nat.le_refl _⟩
  case round =>
    clear O1 B3
    obtain ⟨j, hj, rfl, o, b, far⟩ := hrel
    by_cases hlt : j < 8
    · have hb := lenB_eq n j
      have t4 : (0 : Int) ≤ 56 - 8 * j := by omega
      have t5 : (56 : Int) - 8 * j ≤ 64 := by omega
      have e1 : ((56 : Int) - 8 * j).toNat = 56 - 8 * j := by omega
      have hb8 : IntKind.u64.wrap (8 * (n : Int)) = 8 * n := by simp only [IntKind.wrap, IntKind.signed, IntKind.bits]; simp; omega
      go_wp2_with (at_builtin; refine wpList_app rfl _ _ rfl u4 _ rfl (o.out.alloc _) ⟨wr.heap.size, 0, none⟩ 1 1 [lenB n j] rfl rfl (one_new _ _ _ hb) (by rw [padP_len]; omega) ?_; intro v' w3 hown' hon3)
      exact ⟨⟨j + 1, by omega, by go_num, by rw [← padP_snoc]; exact hown', hide (b.out.trans ((((Onto.refl _ _).alloc _).trans hon3).below b.out.size far.out)), hon3.far (by have := b.out.size; simp; omega) far.out⟩, by simp [intOf]; omega⟩
    · have hje : j = 8 := by omega
      subst hje
      have hcv := conv_own o.out
      go_wp2
      go_ret
      exact ⟨rfl, b.out⟩
theorem rpad_any (n : Nat) (hn : n < 2305843009213693952) (w : World) : Calls Tryz.prog 195 #[.int .u64 (n : Int)] w fun e w' => e = .returned (.string ⟨(padL n).toArray⟩) ∧ Below w.heap.size w w' := by
  have hzl := padZ_lt n
  go_enter Tryz.func195, Tryz.ntmps195
  go_wp2
  have O1 : Hid (Own (w.alloc (.cells #[.int .u8 128] 5)) (.slice (some ⟨w.heap.size, 0, none⟩) 1 1) [128]) :=
    row_own (l := [128]) (C := 1) (f := fun _ => .int .u8 128) ⟨_, heap_alloc_last _ _, rfl, fun i hi => by rcases i with _ | i; rfl; omega⟩ (by simp) (by unfold maxLen; omega) (fun i hi => by rcases i with _ | i; rfl; simp at hi)
  have B1 := hide ((Below.refl w.heap.size w).alloc (Nat.le_refl _) (.cells #[.int .u8 128] 5))
  go_loopw [3] (fun v wr => ∃ k : Nat, k ≤ padZ n ∧ Hid (Own wr v (128 :: List.replicate k 0)) ∧ Hid (Below w.heap.size w wr) ∧ Hid (∀ k, v.ownBlock = some k → w.heap.size ≤ k)) (fun v _ => (padZ n + 1 - lenV v))
  case atStart => exact ⟨0, by omega, O1, B1, fun k hk => by cases hk; exact Nat.le_refl _⟩
  case round =>
    clear O1 B1
    obtain ⟨k, hk, o, b, far⟩ := hrel
    obtain ⟨ao, m, c, rfl, hm0⟩ := Own.form o.out
    have hm : m = 1 + k := by
      have := hm0.out
      simpa [Nat.add_comm] using this
    subst hm
    clear hm0
    by_cases hlt : k < padZ n
    · have ht : (((n : Int) + ((1 + k : Nat) : Int)) % 64 == 56) = false := by
        rw [beq_eq_false_iff_ne]
        unfold padZ at hlt
        omega
      have hw1 : IntKind.u64.wrap (((1 + k : Nat) : Int)) = ((1 + k : Nat) : Int) := wrapu _ (by omega) (by omega)
      have hw2 : IntKind.u64.wrap ((n : Int) + ((1 + k : Nat) : Int)) = (n : Int) + ((1 + k : Nat) : Int) := wrapu _ (by omega) (by omega)
      go_wp2_with (at_builtin; refine wpList_app rfl _ _ rfl (.slice ao (1 + k) c) _ rfl (o.out.alloc _) ⟨wr.heap.size, 0, none⟩ 1 1 [0] rfl rfl (one_new _ _ _ rfl) (by simp; omega) ?_; intro v' w3 hown' hon3)
      have hlv := hown'.len
      refine ⟨⟨k + 1, by omega, ?_, hide (b.out.trans ((((Onto.refl _ _).alloc _).trans hon3).below b.out.size far.out)), hon3.far (by have := b.out.size; simp; omega) far.out⟩, ?_⟩
      · have e : (128 : UInt8) :: List.replicate k 0 ++ [0] = 128 :: List.replicate (k + 1) 0 := by
          rw [List.replicate_succ']; rfl
        rw [← e]
        exact hown'
      · rw [hlv]
        simp [lenV]
        omega
    · have hke : k = padZ n := by omega
      subst hke
      have ht : (((n : Int) + ((1 + padZ n : Nat) : Int)) % 64 == 56) = true := by
        rw [beq_iff_eq]
        unfold padZ
        omega
      have hw1 : IntKind.u64.wrap (((1 + padZ n : Nat) : Int)) = ((1 + padZ n : Nat) : Int) := wrapu _ (by omega) (by omega)
      have hw2 : IntKind.u64.wrap ((n : Int) + ((1 + padZ n : Nat) : Int)) = (n : Int) + ((1 + padZ n : Nat) : Int) := wrapu _ (by omega) (by omega)
      have O2 : Hid (Own wr (.slice ao (1 + padZ n) c) (padP n 0)) := by
        have := o.out
        simpa [Hid, padP] using this
      have ht2 : (((n : Int) + (1 + (padZ n : Int))) % 64 != 56) = false := by
        simp
        unfold padZ
        omega
      clear o ht
      go_wp2
      go_loopw [3, 5] (fun v i wr => ∃ j : Nat, j ≤ 8 ∧ i = .int .i64 (7 - (j : Int)) ∧ Hid (Own wr v (padP n j)) ∧ Hid (Below w.heap.size w wr) ∧ Hid (∀ k, v.ownBlock = some k → w.heap.size ≤ k)) (fun _ i _ => (1 + intOf i).toNat)
      case atStart => exact ⟨0, by omega, rfl, O2, b, far⟩
      case round =>
        clear O2 b far
        obtain ⟨j, hj, rfl, o, b, far⟩ := hrel
        by_cases hlt : j < 8
        · have hb := lenB_eq n j
          have t3 : (0 : Int) ≤ 7 - j := by omega
          have t4 : (0 : Int) ≤ 8 * (7 - j) := by omega
          have t5 : (8 : Int) * (7 - j) ≤ 64 := by omega
          have e1 : ((8 : Int) * (7 - j)).toNat = 56 - 8 * j := by omega
          have hb8 : IntKind.u64.wrap (8 * (n : Int)) = 8 * n := wrapu _ (by omega) (by omega)
          go_wp2_with (at_builtin; refine wpList_app rfl _ _ rfl u3 _ rfl (o.out.alloc _) ⟨wr.heap.size, 0, none⟩ 1 1 [lenB n j] rfl rfl (one_new _ _ _ hb) (by rw [padP_len]; omega) ?_; intro v' w3 hown' hon3)
          exact ⟨⟨j + 1, by omega, by congr 1; omega, by rw [← padP_snoc]; exact hown', hide (b.out.trans ((((Onto.refl _ _).alloc _).trans hon3).below b.out.size far.out)), hon3.far (by have := b.out.size; simp; omega) far.out⟩, by simp [intOf]; omega⟩
        · have hje : j = 8 := by omega
          subst hje
          have hcv := conv_own o.out
          have h7 : ¬ (0 : Int) ≤ 7 - ((8 : Nat) : Int) := by omega
          go_wp2
          go_ret
          exact ⟨rfl, b.out⟩
end
end Go.Proofs.YthhojpplbhnnfaaGreatDoor
