/- Bytes that are appended; the padding: the contracts of Pad and of the document's Pad. A hasher in memory: its cells, and the mathematics of what was written. -/
import Derived.Test.YtppooipamibhoaaGreatDoorX02
namespace Go.Proofs.YtppooipamibhoaaGreatDoor
open Go.RowKit
open Go.Deep
/-! ### Memory that is appended to -/
/-- w' is w but for v's own row and new blocks; v' lies in v's row or in a new block. -/
structure Onto (w w' : World) (v v' : Value) : Prop where
  grown : w.grownBy w' v.ownBlock
  lies : v'.ownBlock = v.ownBlock ∨ ∃ g, v'.ownBlock = some g ∧ w.heap.size ≤ g
theorem Onto.refl (w : World) (v : Value) : Onto w w v v := ⟨⟨rfl, rfl, rfl, Nat.le_refl _, fun _ _ _ => rfl⟩, .inl rfl⟩
theorem Onto.trans {w w1 w2 : World} {v v1 v2 : Value} (h : Onto w w1 v v1) (k : Onto w1 w2 v1 v2) : Onto w w2 v v2 := by
  obtain ⟨g, l⟩ := h
  obtain ⟨g', l'⟩ := k
  have hs := g.size
  refine ⟨⟨g'.os.trans g.os, g'.tape.trans g.tape, g'.output.trans g.output, Nat.le_trans hs g'.size, fun i hi hne => ?_⟩, ?_⟩
  · rw [g'.block i (by omega) ?_, g.block i hi hne]
    rcases l with l | ⟨b, l, hb⟩
    · rw [l]; exact hne
    · rw [l]; intro e; cases e; omega
  · rcases l' with l' | ⟨b, l', hb⟩
    · rw [l']; exact l
    · exact .inr ⟨b, l', by omega⟩
theorem Onto.alloc {w w' : World} {v v' : Value} (h : Onto w w' v v') (o : Obj) : Onto w (w'.alloc o) v v' := by
  obtain ⟨g, l⟩ := h
  refine ⟨⟨g.os, g.tape, g.output, by have := g.size; simp; omega, fun i hi hne => ?_⟩, l⟩
  rw [Below.heap_alloc _ _ _ (by have := g.size; omega)]
  exact g.block i hi hne
theorem Onto.drew {w w' : World} {v v' : Value} (h : Onto w w' v v') : Onto w w'.drew v v' := by
  obtain ⟨g, l⟩ := h
  exact ⟨⟨g.os, g.tape, g.output, g.size, g.block⟩, l⟩
theorem Onto.below {w w' : World} {v v' : Value} (h : Onto w w' v v') {B : Nat} (hB : B ≤ w.heap.size) (hv : ∀ k, v.ownBlock = some k → B ≤ k) : Below B w w' :=
  (Below.refl B w).grown h.grown hB hv
theorem Onto.far {w w' : World} {v v' : Value} (h : Onto w w' v v') {B : Nat} (hB : B ≤ w.heap.size) (hv : ∀ k, v.ownBlock = some k → B ≤ k) : ∀ k, v'.ownBlock = some k → B ≤ k := by
  intro k hk
  rcases h.lies with l | ⟨b, l, hb⟩
  · rw [l] at hk; exact hv k hk
  · rw [l] at hk; cases hk; omega
/-- v is a slice of bytes of the program's own making that holds l. -/
def Own (w : World) (v : Value) (l : List UInt8) : Prop := w.ownsRow 0 5 1 v l.length (cellsL l)
theorem Own.nil (w : World) : Own w (.slice none 0 0) [] := World.ownsRow_nil _ _ _ _

theorem Own.alloc {w : World} {v : Value} {l : List UInt8} (h : Own w v l) (o : Obj) : Own (w.alloc o) v l := World.ownsRow.alloc h o
theorem info5 : (Tryz.prog.info? 5).map (fun i => (i.zero, i.size, i.bytes)) = some (some (.int .u8 0), 1, 1) := by kernel_rfl

theorem run_app {w : World} {ty : TypeId} {v : Value} {l : List UInt8} (hown : Own w v l) (ad : Addr) (m c : Nat) (news : List UInt8) (hm : m = news.length) (hnews : ∀ j u, (cellsL news)[j]? = some u → w.cell? (ad.add j) = some u)
    (hsm : l.length + m ≤ 140737488355328) :
    ∃ v' w', (Builtin.append_ #[258, 258] ty #[v, .slice (some ad) m c]).run Tryz.prog w = .ok v' w' ∧ Own w' v' (l ++ news) ∧ Onto w w' v v' := by
  obtain ⟨i0, hi, hz0, hz1, hz2⟩ := info_parts info5
  obtain ⟨v', w', hr, h2, h3, _, h5⟩ := run_append_own_at (P := Tryz.prog) w 0 258 ty 5 i0 (.int .u8 0) 1 1 Tryz.underlying258 hi hz0 hz1 hz2 rfl (by decide) v l.length (cellsL l) hown ad m c (cellsL news) (by simp [cellsL_len, hm]) hnews
    (fun u hu => by simp only [cellsL, List.mem_map] at hu; obtain ⟨b, _, rfl⟩ := hu; rfl) (by unfold maxLen; omega) (by omega) (Nat.zero_le _)
  refine ⟨v', w', hr, ?_, ⟨h3, ?_⟩⟩
  · unfold Own
    rw [List.length_append, cellsL_app, ← hm]
    exact h2
  · rcases h5 with h5 | h5
    · exact .inl h5
    · exact .inr ⟨_, h5, Nat.le_refl _⟩
theorem wpList_app {w : World} {ops : Array Oper} {rest : List Oper} {o : Oper} {a : Act} {Q : Exit → Act → World → Prop} (hgd : o.guard = none) (s x : Operand)
    (ho : o.op = .call { callee := .builtin .append, args := #[s, x], argTypes := #[258, 258] })
    (v : Value) (l : List UInt8) (hs : a.eval s = v) (hown : Own w v l)
    (ad : Addr) (m c : Nat) (news : List UInt8) (hx : a.eval x = .slice (some ad) m c) (hm : m = news.length) (hnews : ∀ j u, (cellsL news)[j]? = some u → w.cell? (ad.add j) = some u) (hsm : l.length + m ≤ 140737488355328)
    (h : ∀ v' w', Own w' v' (l ++ news) → Onto w w' v v' → wpList Tryz.prog ops Q rest (a.put o.dst v') w') :
    wpList Tryz.prog ops Q (o :: rest) a w := by
  refine wpList_plain hgd fun K hK => ?_
  obtain ⟨v', w', hr, h2, h3⟩ := run_app (ty := o.type) hown ad m c news hm hnews hsm
  unfold Oper.wp execOp
  simp only [ho, resolve, invoke, builtin, Sem.run_bind, Sem.run_pure, Result.andThen_ok, List.map_toArray, List.map_cons, List.map_nil, hs, hx, hr]
  exact hK _ _ (h v' w' h2 h3)
/-- The one cell of a block that was just laid. -/
theorem one_new (w : World) (x : Int) (b : UInt8) (hx : x = b.toNat) : ∀ j u, (cellsL [b])[j]? = some u → (w.alloc (.cells #[.int .u8 x] 5)).cell? ((⟨w.heap.size, 0, none⟩ : Addr).add j) = some u := by
  subst hx
  exact cell_one_new _ _ _

/-- A slice of bytes of the program's own, turned into a string. -/
theorem conv_own {w : World} {v : Value} {l : List UInt8} (h : Own w v l) : (convert 258 9 v).run Tryz.prog w = .ok (.string ⟨l.toArray⟩) w := by
  rcases h.2 with ⟨rfl, h0⟩ | ⟨g, cap, cur, rfl, hb, hg, hn, hm, hsz, ht⟩
  · have : l = [] := List.eq_nil_of_length_eq_zero h0
    subst this
    exact run_convert_bytes_nil (P := Tryz.prog) w 258 5 Tryz.underlying258 Tryz.underlying5 0 0 9 Tryz.underlying9
  · refine run_convert_bytes_back (P := Tryz.prog) w 258 9 5 ⟨g, 0, none⟩ cap l Tryz.underlying258 Tryz.underlying5 Tryz.underlying9 ?_
    intro j hj
    refine World.ownsRow.cells h rfl j _ ?_
    simp [cellsL, hj]


theorem row_own {w : World} {g C : Nat} {f : Nat → Value} {l : List UInt8} (h : w.rowIs g 5 C f) (hl : l.length ≤ C) (hC : C ≤ maxLen) (hf : ∀ i (hi : i < l.length), f i = .int .u8 (l[i].toNat : Int)) : Own w (.slice (some ⟨g, 0, none⟩) l.length C) l := by
  obtain ⟨c, hb, hn, hc⟩ := h
  refine ⟨by simp [cellsL_len], .inr ⟨g, C, c, rfl, Nat.zero_le _, hb, hl, hC, by omega, ?_⟩⟩
  apply List.ext_getElem?
  intro i
  rw [Nat.mul_one, List.getElem?_take]
  by_cases hi : i < l.length
  · rw [if_pos hi, Array.getElem?_toList, hc i (by omega), hf i hi]
    simp [cellsL, hi]
  · rw [if_neg hi, List.getElem?_eq_none (by rw [cellsL_len]; omega)]
theorem wpList_make_at {w : World} {ops : Array Oper} {rest : List Oper} {o : Oper} {a : Act} {Q : Exit → Act → World → Prop} (hgd : o.guard = none) (l c : Operand) (hop : o.op = Op.makeSlice 258 l c)
    (kl kc : IntKind) (L C : Int) (n m : Nat) (hl : a.eval l = .int kl L) (hc : a.eval c = .int kc C) (hL : L = n) (hC : C = m) (hnm : n ≤ m) (hm : m ≤ 281474976710656)
    (h : ∀ w', w'.rowIs w.heap.size 5 m (fun _ => .int .u8 0) → Below w.heap.size w w' → wpList Tryz.prog ops Q rest (a.put o.dst (.slice (some ⟨w.heap.size, 0, none⟩) n m)) w') : wpList Tryz.prog ops Q (o :: rest) a w := by
  subst hL hC
  refine wpList_plain hgd fun K hK => ?_
  obtain ⟨i0, hi, hz0, hz1, hz2⟩ := info_parts info5
  have hr := run_make (P := Tryz.prog) w 258 5 i0 (.int .u8 0) Tryz.underlying258 hi hz0 kl kc n m (by omega) (by omega) (by rw [hz2]; omega) (by omega)
  rw [Int.toNat_natCast, Int.toNat_natCast, hz1, Nat.mul_one] at hr
  unfold Oper.wp
  simp only [execOp, hop, hl, hc, hr, Sem.run_bind, Result.andThen_ok, Sem.run_pure]
  exact hK _ _ (h _ (World.rowIs_made w _ m 5) ((Below.refl _ _).alloc (Nat.le_refl _) _))
theorem wrapu (x : Int) (h0 : 0 ≤ x) (h1 : x < 18446744073709551616) : IntKind.u64.wrap x = x := by
  simp only [IntKind.wrap, IntKind.signed, IntKind.bits]
  simp
  omega
theorem Own.form {w : World} {v : Value} {l : List UInt8} (h : Own w v l) : ∃ ao n c, v = .slice ao n c ∧ Hid (n = l.length) := by
  rcases h.2 with ⟨rfl, h0⟩ | ⟨g, cap, cur, rfl, _⟩
  · exact ⟨none, 0, 0, rfl, h0.symm⟩
  · exact ⟨_, _, _, rfl, rfl⟩
/-- How long a slice is. -/
def lenV : Value → Nat
  | .slice _ n _ => n
  | _ => 0
theorem Own.len {w : World} {v : Value} {l : List UInt8} (h : Own w v l) : lenV v = l.length := by
  obtain ⟨ao, n, c, rfl, hn⟩ := Own.form h
  exact hn.out
/-- How many zeros pad a text of n bytes. -/
def padZ (n : Nat) : Nat := (119 - n % 64) % 64
/-- The byte i of the length in bits. -/
def lenB (n i : Nat) : UInt8 := UInt8.ofNat (8 * n / 2 ^ (56 - 8 * i))
/-- The padding of which j bytes of the length stand. -/
def padP (n j : Nat) : List UInt8 := 128 :: (List.replicate (padZ n) 0 ++ (List.range j).map (lenB n))
theorem padP_len (n j : Nat) : (padP n j).length = 1 + padZ n + j := by simp [padP]; omega
theorem padP_snoc (n j : Nat) : padP n j ++ [lenB n j] = padP n (j + 1) := by simp [padP, List.range_succ]
/-- The padding of a text of n bytes. -/
def padL (n : Nat) : List UInt8 := padP n 8
theorem padZ_lt (n : Nat) : padZ n < 64 := by unfold padZ; omega
theorem lenB_eq (n i : Nat) : (8 * (n : Int)) / 2 ^ (56 - 8 * i) % 256 = ((lenB n i).toNat : Int) := by
  rw [lenB, UInt8.toNat_ofNat']
  simp
section
set_option maxRecDepth 10000
set_option maxHeartbeats 1000000
theorem pad_any (n : Nat) (hn : n < 2305843009213693952) (w : World) : Calls Tryz.prog 300 #[.int .u64 (n : Int)] w fun e w' => e = .returned (.string ⟨(padL n).toArray⟩) ∧ Below w.heap.size w w' := by
  have hz : (119 - (n : Int) % 64) % 64 = (padZ n : Int) := by unfold padZ; omega
  have hzl := padZ_lt n
  go_enter Tryz.func300, Tryz.ntmps300
  go_wp2_with (at_make; refine wpList_make_at rfl _ _ rfl _ _ _ _ (1 + padZ n) (9 + padZ n) rfl rfl (by omega) (by omega) (by omega) (by omega) ?_; intro w1 R1 B1; have c1 := R1.cell (show 0 < 9 + padZ n by omega); have f1 := R1.frozen 0; have R2 := hide R1; have B2 := hide B1; clear R1 B1)
  have O1 : Hid (Own (w1.setCell ⟨w.heap.size, 0, none⟩ (.int .u8 128)) (.slice (some ⟨w.heap.size, 0, none⟩) (padP n 0).length (9 + padZ n)) (padP n 0)) := by
    refine row_own (R2.out.set 0 _) (by rw [padP_len]; omega) (by unfold maxLen; omega) (fun i hi => ?_)
    rw [padP_len] at hi
    rcases i with _ | i
    · rfl
    · simp [padP]
  rw [padP_len] at O1
  have B3 := hide (B2.out.setCell (p := ⟨w.heap.size, 0, none⟩) (Nat.le_refl _) (.int .u8 128))
  clear R2 B2
  generalize w1.setCell ⟨w.heap.size, 0, none⟩ (.int .u8 128) = w2 at *
  go_loopw [4, 18] (fun v c wr => ∃ j : Nat, j ≤ 8 ∧ c = .int .i64 j ∧ Hid (Own wr v (padP n j)) ∧ Hid (Below w.heap.size w wr) ∧ Hid (∀ k, v.ownBlock = some k → w.heap.size ≤ k)) (fun _ c _ => (8 - intOf c).toNat)
  case atStart => exact ⟨0, by omega, rfl, O1, B3, fun k hk => by cases hk; exact Nat.le_refl _⟩
  case round =>
    clear O1 B3
    obtain ⟨j, hj, rfl, o, b, far⟩ := hrel
    by_cases hlt : j < 8
    · have hb := lenB_eq n j
      have t4 : (0 : Int) ≤ 56 - 8 * j := by omega
      have t5 : (56 : Int) - 8 * j ≤ 64 := by omega
      have e1 : ((56 : Int) - 8 * j).toNat = 56 - 8 * j := by omega
      have hb8 : IntKind.u64.wrap (8 * (n : Int)) = 8 * n := by simp only [IntKind.wrap, IntKind.signed, IntKind.bits]; simp; omega
      go_wp2_with (at_builtin; refine wpList_app rfl _ _ rfl u4 _ rfl (o.out.alloc _) ⟨wr.heap.size, 0, none⟩ 1 1 [lenB n j] rfl rfl (one_new _ _ _ hb) (by rw [padP_len]; omega) ?_; intro v' w3 hown' hon3)
      exact ⟨⟨j + 1, by omega, by go_num, by rw [← padP_snoc]; exact hown', hide (b.out.trans ((((Onto.refl _ _).alloc _).trans hon3).below b.out.size far.out)), hon3.far (by have := b.out.size; simp; omega) far.out⟩, by simp [intOf]; omega⟩
    · have hje : j = 8 := by omega
      subst hje
      have hcv := conv_own o.out
      go_wp2
      go_ret
      exact ⟨rfl, b.out⟩
theorem rpad_any (n : Nat) (hn : n < 2305843009213693952) (w : World) : Calls Tryz.prog 282 #[.int .u64 (n : Int)] w fun e w' => e = .returned (.string ⟨(padL n).toArray⟩) ∧ Below w.heap.size w w' := by
  have hzl := padZ_lt n
  go_enter Tryz.func282, Tryz.ntmps282
  go_wp2
  have O1 : Hid (Own (w.alloc (.cells #[.int .u8 128] 5)) (.slice (some ⟨w.heap.size, 0, none⟩) 1 1) [128]) :=
    row_own (l := [128]) (C := 1) (f := fun _ => .int .u8 128) ⟨_, heap_alloc_last _ _, rfl, fun i hi => by rcases i with _ | i; rfl; omega⟩ (by simp) (by unfold maxLen; omega) (fun i hi => by rcases i with _ | i; rfl; simp at hi)
  have B1 := hide ((Below.refl w.heap.size w).alloc (Nat.le_refl _) (.cells #[.int .u8 128] 5))
  go_loopw [3] (fun v wr => ∃ k : Nat, k ≤ padZ n ∧ Hid (Own wr v (128 :: List.replicate k 0)) ∧ Hid (Below w.heap.size w wr) ∧ Hid (∀ k, v.ownBlock = some k → w.heap.size ≤ k)) (fun v _ => (padZ n + 1 - lenV v))
  case atStart => exact ⟨0, by omega, O1, B1, fun k hk => by cases hk; exact Nat.le_refl _⟩
  case round =>
    clear O1 B1
    obtain ⟨k, hk, o, b, far⟩ := hrel
    obtain ⟨ao, m, c, rfl, hm0⟩ := Own.form o.out
    have hm : m = 1 + k := by
      have := hm0.out
      simpa [Nat.add_comm] using this
    subst hm
    clear hm0
    by_cases hlt : k < padZ n
    · have ht : (((n : Int) + ((1 + k : Nat) : Int)) % 64 == 56) = false := by
        rw [beq_eq_false_iff_ne]
        unfold padZ at hlt
        omega
      have hw1 : IntKind.u64.wrap (((1 + k : Nat) : Int)) = ((1 + k : Nat) : Int) := wrapu _ (by omega) (by omega)
      have hw2 : IntKind.u64.wrap ((n : Int) + ((1 + k : Nat) : Int)) = (n : Int) + ((1 + k : Nat) : Int) := wrapu _ (by omega) (by omega)
      go_wp2_with (at_builtin; refine wpList_app rfl _ _ rfl (.slice ao (1 + k) c) _ rfl (o.out.alloc _) ⟨wr.heap.size, 0, none⟩ 1 1 [0] rfl rfl (one_new _ _ _ rfl) (by simp; omega) ?_; intro v' w3 hown' hon3)
      have hlv := hown'.len
      refine ⟨⟨k + 1, by omega, ?_, hide (b.out.trans ((((Onto.refl _ _).alloc _).trans hon3).below b.out.size far.out)), hon3.far (by have := b.out.size; simp; omega) far.out⟩, ?_⟩
      · have e : (128 : UInt8) :: List.replicate k 0 ++ [0] = 128 :: List.replicate (k + 1) 0 := by
          rw [List.replicate_succ']; rfl
        rw [← e]
        exact hown'
      · rw [hlv]
        simp [lenV]
        omega
    · have hke : k = padZ n := by omega
      subst hke
      have ht : (((n : Int) + ((1 + padZ n : Nat) : Int)) % 64 == 56) = true := by
        rw [beq_iff_eq]
        unfold padZ
        omega
      have hw1 : IntKind.u64.wrap (((1 + padZ n : Nat) : Int)) = ((1 + padZ n : Nat) : Int) := wrapu _ (by omega) (by omega)
      have hw2 : IntKind.u64.wrap ((n : Int) + ((1 + padZ n : Nat) : Int)) = (n : Int) + ((1 + padZ n : Nat) : Int) := wrapu _ (by omega) (by omega)
      have O2 : Hid (Own wr (.slice ao (1 + padZ n) c) (padP n 0)) := by
        have := o.out
        simpa [Hid, padP] using this
      have ht2 : (((n : Int) + (1 + (padZ n : Int))) % 64 != 56) = false := by
        simp
        unfold padZ
        omega
      clear o ht
      go_wp2
      go_loopw [3, 5] (fun v i wr => ∃ j : Nat, j ≤ 8 ∧ i = .int .i64 (7 - (j : Int)) ∧ Hid (Own wr v (padP n j)) ∧ Hid (Below w.heap.size w wr) ∧ Hid (∀ k, v.ownBlock = some k → w.heap.size ≤ k)) (fun _ i _ => (1 + intOf i).toNat)
      case atStart => exact ⟨0, by omega, rfl, O2, b, far⟩
      case round =>
        clear O2 b far
        obtain ⟨j, hj, rfl, o, b, far⟩ := hrel
        by_cases hlt : j < 8
        · have hb := lenB_eq n j
          have t3 : (0 : Int) ≤ 7 - j := by omega
          have t4 : (0 : Int) ≤ 8 * (7 - j) := by omega
          have t5 : (8 : Int) * (7 - j) ≤ 64 := by omega
          have e1 : ((8 : Int) * (7 - j)).toNat = 56 - 8 * j := by omega
          have hb8 : IntKind.u64.wrap (8 * (n : Int)) = 8 * n := wrapu _ (by omega) (by omega)
          go_wp2_with (at_builtin; refine wpList_app rfl _ _ rfl u3 _ rfl (o.out.alloc _) ⟨wr.heap.size, 0, none⟩ 1 1 [lenB n j] rfl rfl (one_new _ _ _ hb) (by rw [padP_len]; omega) ?_; intro v' w3 hown' hon3)
          exact ⟨⟨j + 1, by omega, by congr 1; omega, by rw [← padP_snoc]; exact hown', hide (b.out.trans ((((Onto.refl _ _).alloc _).trans hon3).below b.out.size far.out)), hon3.far (by have := b.out.size; simp; omega) far.out⟩, by simp [intOf]; omega⟩
        · have hje : j = 8 := by omega
          subst hje
          have hcv := conv_own o.out
          have h7 : ¬ (0 : Int) ≤ 7 - ((8 : Nat) : Int) := by omega
          go_wp2
          go_ret
          exact ⟨rfl, b.out⟩
end
end Go.Proofs.YtppooipamibhoaaGreatDoor
namespace Go.Proofs.YtppooipamibhoaaGreatDoor
open Go.RowKit
open Go.Deep
/-- The state behind the first k blocks of a text. -/
def stN (t : List UInt8) : Nat → St
  | 0 => first
  | k + 1 => step (stN t k) ((t.drop (64 * k)).take 64)
theorem stN_app (t u : List UInt8) (k : Nat) (h : 64 * k ≤ t.length) : stN (t ++ u) k = stN t k := by
  induction k with
  | zero => rfl
  | succ k ih =>
    rw [stN, stN, ih (by omega), List.drop_append_of_le_length (by omega), List.take_append_of_le_length (by rw [List.length_drop]; omega)]
/-- What is left of a text behind its whole blocks. -/
def rest (t : List UInt8) : List UInt8 := t.drop (64 * (t.length / 64))
theorem rest_len (t : List UInt8) : (rest t).length = t.length % 64 := by
  unfold rest
  rw [List.length_drop]
  omega
/-- The tail behind a copy. -/
def tl2 (tl : List UInt8) (r : Nat) (q : List UInt8) : List UInt8 := tl.take r ++ q ++ tl.drop (r + q.length)
theorem tl2_len (tl : List UInt8) (r : Nat) (q : List UInt8) (h : tl.length = 64) (hr : r + q.length ≤ 64) : (tl2 tl r q).length = 64 := by
  simp only [tl2, List.length_append, List.length_take, List.length_drop, h]
  omega
theorem more_div (t q : List UInt8) (h : t.length % 64 + q.length < 64) : (t ++ q).length / 64 = t.length / 64 := by
  rw [List.length_append]; omega
theorem more_rest (t q tl : List UInt8) (h : t.length % 64 + q.length < 64) (hl : tl.length = 64) (ht : tl.take (t.length % 64) = rest t) :
    (tl2 tl (t.length % 64) q).take ((t ++ q).length % 64) = rest (t ++ q) := by
  have e : (t ++ q).length % 64 = t.length % 64 + q.length := by rw [List.length_append]; omega
  unfold rest
  rw [more_div t q h, e, List.drop_append_of_le_length (by omega), show t.drop (64 * (t.length / 64)) = rest t from rfl, ← ht, tl2]
  rw [List.take_append_of_le_length (by simp; omega), List.take_of_length_le (by simp; omega)]
theorem more_st (t q : List UInt8) (h : t.length % 64 + q.length < 64) : stN (t ++ q) ((t ++ q).length / 64) = stN t (t.length / 64) := by
  rw [more_div t q h, stN_app t q _ (by omega)]
theorem full_st (t q tl : List UInt8) (h : t.length % 64 + q.length = 64) (hl : tl.length = 64) (ht : tl.take (t.length % 64) = rest t) :
    stN (t ++ q) ((t ++ q).length / 64) = step (stN t (t.length / 64)) (tl2 tl (t.length % 64) q) := by
  have e : (t ++ q).length / 64 = t.length / 64 + 1 := by rw [List.length_append]; omega
  rw [e, stN, stN_app t q _ (by omega)]
  congr 1
  rw [List.drop_append_of_le_length (by omega), show t.drop (64 * (t.length / 64)) = rest t from rfl, ← ht, tl2, List.drop_of_length_le (by omega), List.append_nil]
  rw [List.take_of_length_le (by simp; omega)]
theorem full_mod (t q : List UInt8) (h : t.length % 64 + q.length = 64) : (t ++ q).length % 64 = 0 := by
  rw [List.length_append]; omega
theorem rest_nil (t : List UInt8) (h : t.length % 64 = 0) : rest t = [] := by
  apply List.eq_nil_of_length_eq_zero
  rw [rest_len, h]

/-! ### Its cells -/
/-- The cells of a hasher. -/
def hF (s : St) (tl : List UInt8) (n j : Nat) : Value := if j < 8 then .int .u32 ((s.at j).toNat : Int) else if j < 72 then .int .u8 (by8 tl (j - 8) : Int) else .int .u64 (n : Int)
def hsA (s : St) (tl : List UInt8) (n : Nat) : Array Value := (s.list.map (fun x => Value.int .u32 (x.toNat : Int)) ++ cellsL tl ++ [Value.int .u64 (n : Int)]).toArray
theorem hsA_size (s : St) (tl : List UInt8) (n : Nat) (h : tl.length = 64) : (hsA s tl n).size = 73 := by
  simp [hsA, cellsL_len, h, list_len]
theorem hsA_one (s : St) (tl : List UInt8) (n : Nat) : (hsA s tl n).all (·.oneCell') = true := by
  rw [Array.all_eq_true_iff_forall_mem]
  intro v hv
  simp only [hsA, cellsL, List.mem_toArray, List.mem_append, List.mem_map, List.mem_singleton] at hv
  rcases hv with (⟨b, _, rfl⟩ | ⟨b, _, rfl⟩) | rfl <;> rfl
theorem hsA_at (s : St) (tl : List UInt8) (n : Nat) (h : tl.length = 64) (j : Nat) (hj : j < 73) : (hsA s tl n)[j]? = some (hF s tl n j) := by
  unfold hsA hF
  rw [List.getElem?_toArray]
  by_cases h1 : j < 8
  · rw [if_pos h1, List.append_assoc, List.getElem?_append_left (by simp [list_len]; exact h1), List.getElem?_map]
    have : s.list[j]? = some (s.at j) := by
      rw [St.at, List.getD_eq_getElem?_getD, List.getElem?_eq_getElem (by rw [list_len]; exact h1)]; rfl
    rw [this]; rfl
  · by_cases h2 : j < 72
    · rw [if_neg h1, if_pos h2, List.getElem?_append_left (by simp [list_len, cellsL_len, h]; omega), List.getElem?_append_right (by simp [list_len]; omega)]
      simp only [List.length_map, list_len]
      have := hc_at tl (j - 8) (by omega)
      simpa [hc] using this
    · have : j = 72 := by omega
      subst this
      rw [if_neg h1, if_neg h2, List.getElem?_append_right (by simp [list_len, cellsL_len, h])]
      simp [list_len, cellsL_len, h]
/-- A hasher at block b. -/
def Hst (w : World) (b : Nat) (s : St) (tl : List UInt8) (n : Nat) : Prop := w.rowIs b 364 73 (hF s tl n)
theorem Hst.lt {w : World} {b : Nat} {s : St} {tl : List UInt8} {n : Nat} (h : Hst w b s tl n) : b < w.heap.size := World.rowIs.lt h
theorem Hst.of_block {w w' : World} {b : Nat} {s : St} {tl : List UInt8} {n : Nat} (h : Hst w b s tl n) (e : w'.heap[b]? = w.heap[b]?) : Hst w' b s tl n := World.rowIs.of_block h e
theorem Hst.below {w w' : World} {b : Nat} {s : St} {tl : List UInt8} {n : Nat} (h : Hst w b s tl n) (hb : Below w.heap.size w w') : Hst w' b s tl n := h.of_block (hb.block b h.lt)
theorem Hst.long {w : World} {b : Nat} {s : St} {tl : List UInt8} {n : Nat} (h : Hst w b s tl n) : w.cell? ⟨b, 72, none⟩ = some (.int .u64 (n : Int)) := World.rowIs.cell h (by omega)
theorem Hst.frozen {w : World} {b : Nat} {s : St} {tl : List UInt8} {n : Nat} (h : Hst w b s tl n) (i : Nat) : w.frozen? ⟨b, i, none⟩ = false := World.rowIs.frozen h i
theorem Hst.heap {w : World} {b : Nat} {s : St} {tl : List UInt8} {n : Nat} (hl : tl.length = 64) (h : Hst w b s tl n) : w.heap[b]? = some (.cells (hsA s tl n) 364 (0, 0)) :=
  of_row (hsA_size s tl n hl) h (fun i hi => hsA_at s tl n hl i hi)
theorem Hst.of_heap {w : World} {b : Nat} {s : St} {tl : List UInt8} {n : Nat} (hl : tl.length = 64) (h : w.heap[b]? = some (.cells (hsA s tl n) 364 (0, 0))) : Hst w b s tl n :=
  row_of (hsA_size s tl n hl) h (fun i hi => hsA_at s tl n hl i hi)
theorem Hst.there {w : World} {b : Nat} {s : St} {tl : List UInt8} {n : Nat} (h : Hst w b s tl n) (o m : Nat) (hm : o + m ≤ 73) : w.there b o m := fun j hj => by
  have := World.rowIs.cell h (show o + j < 73 by omega)
  exact ⟨by rw [this]; rfl, h.frozen _⟩
theorem Hst.range31 {w : World} {b : Nat} {s : St} {tl : List UInt8} {n : Nat} (h : Hst w b s tl n) : w.rangeAt b 0 (s.list.map fun x => Value.int .u32 (x.toNat : Int)) := fun j v hv => by
  rw [List.getElem?_map] at hv
  have hj : j < 8 := by
    rcases Nat.lt_or_ge j 8 with h' | h'
    · exact h'
    · rw [List.getElem?_eq_none (by rw [list_len]; omega)] at hv; cases hv
  have := World.rowIs.cell h (show j < 73 by omega)
  rw [Nat.zero_add, this]
  have e : s.list[j]? = some (s.at j) := by
    rw [St.at, List.getD_eq_getElem?_getD, List.getElem?_eq_getElem (by rw [list_len]; exact hj)]; rfl
  rw [e] at hv
  simpa [hF, hj] using hv
theorem Hst.range35 {w : World} {b : Nat} {s : St} {tl : List UInt8} {n : Nat} (hl : tl.length = 64) (h : Hst w b s tl n) : w.rangeAt b 8 (cellsL tl) := fun j v hv => by
  have hj : j < 64 := by
    rcases Nat.lt_or_ge j 64 with h' | h'
    · exact h'
    · rw [List.getElem?_eq_none (by rw [cellsL_len]; omega)] at hv; cases hv
  have := World.rowIs.cell h (show 8 + j < 73 by omega)
  rw [this]
  have e := hc_at tl j (by omega)
  have e2 : (hc tl)[j]? = (cellsL tl)[j]? := by simp [hc]
  rw [e2, hv] at e
  rw [e]
  simp [hF, show 8 + j < 72 by omega]
/-- The loads and stores of a hasher's parts, under names that the walk does not open. -/
def ld31 (x : Value) : Sem Value := Instr.loadAt 360 x
theorem ld31_eq (x : Value) : Instr.loadAt 360 x = ld31 x := rfl
def ld35 (x : Value) : Sem Value := Instr.loadAt 362 x
theorem ld35_eq (x : Value) : Instr.loadAt 362 x = ld35 x := rfl
def ld72 (x : Value) : Sem Value := Instr.loadAt 364 x
theorem ld72_eq (x : Value) : Instr.loadAt 364 x = ld72 x := rfl
def sv31 (x y : Value) : Sem Unit := Instr.storeAt 360 x y
theorem sv31_eq (x y : Value) : Instr.storeAt 360 x y = sv31 x y := rfl
theorem Hst.ld31 {w : World} {b : Nat} {s : St} {tl : List UInt8} {n : Nat} (h : Hst w b s tl n) : (ld31 (.pointer (some ⟨b, 0, none⟩))).run Tryz.prog w = .ok (.agg (uc s.list)) w :=
  run_loadAt_mid w b 0 360 _ _ h.range31 Tryz.underlying360 rfl (by kernel_rfl)
theorem Hst.ld35 {w : World} {b : Nat} {s : St} {tl : List UInt8} {n : Nat} (hl : tl.length = 64) (h : Hst w b s tl n) : (ld35 (.pointer (some ⟨b, 8, none⟩))).run Tryz.prog w = .ok (.agg (hc tl)) w :=
  run_loadAt_mid w b 8 362 _ _ (h.range35 hl) Tryz.underlying362 rfl (by rw [A35.info, cellsL_len, hl])
theorem A72 : Arr 364 73 (hsA ⟨0, 0, 0, 0, 0, 0, 0, 0⟩ zeros64 0) := ⟨.inr ⟨_, Tryz.underlying364⟩, by kernel_rfl, fun w => by kernel_rfl, fun w => by kernel_rfl, hsA_size _ _ _ zeros64_len⟩
theorem Hst.ld72 {w : World} {b : Nat} {s : St} {tl : List UInt8} {n : Nat} (hl : tl.length = 64) (h : Hst w b s tl n) : (ld72 (.pointer (some ⟨b, 0, none⟩))).run Tryz.prog w = .ok (.agg (hsA s tl n)) w := by
  unfold YtppooipamibhoaaGreatDoor.ld72
  simp only [Instr.loadAt, Instr.sureAddr, Sem.run_bind, Sem.run_pure, Result.andThen]
  exact run_loadVar_row w b 364 364 (hsA s tl n) (0, 0) _ (h.heap hl) Tryz.underlying364 rfl (by rw [A72.info, hsA_size s tl n hl])
theorem Hst.sv31 {w : World} {b : Nat} {s : St} {tl : List UInt8} {n : Nat} (h : Hst w b s tl n) (s2 : St) : (sv31 (.pointer (some ⟨b, 0, none⟩)) (.agg (uc s2.list))).run Tryz.prog w = .ok () (w.setCells b 0 (uc s2.list).toList) :=
  run_storeAt_mid w b 0 360 (uc s2.list) (h.there 0 8 (by omega)) (by kernel_rfl) (uc_one _)
theorem Hst.set31 {w : World} {b : Nat} {s : St} {tl : List UInt8} {n : Nat} (h : Hst w b s tl n) (s2 : St) : Hst (w.setCells b 0 (uc s2.list).toList) b s2 tl n := by
  refine (rowIs_setCells (uc s2.list).toList 0 w _ h).congr (fun j hj => ?_)
  have e : (uc s2.list).toList.length = 8 := rfl
  rw [e]
  by_cases h1 : j < 8
  · have e3 : (uc s2.list).toList[j - 0]? = some (.int .u32 ((s2.at j).toNat : Int)) := by
      rw [Nat.sub_zero, Array.getElem?_toList]; exact st_at s2 j h1
    rw [if_pos (by omega), e3]
    simp [hF, h1]
  · rw [if_neg (by omega)]
    simp [hF, h1]
theorem Hst.setLong {w : World} {b : Nat} {s : St} {tl : List UInt8} {n : Nat} (h : Hst w b s tl n) (m : Nat) : Hst (w.setCell ⟨b, 72, none⟩ (.int .u64 (m : Int))) b s tl m := by
  refine (World.rowIs.set h 72 _).congr (fun j hj => ?_)
  by_cases e : j = 72
  · subst e; simp [hF]
  · rw [if_neg e]
    unfold hF
    by_cases h1 : j < 8
    · rw [if_pos h1, if_pos h1]
    · rw [if_neg h1, if_neg h1, if_pos (by omega), if_pos (by omega)]
theorem Hst.copied {w : World} {b : Nat} {s : St} {tl : List UInt8} {n : Nat} (hl : tl.length = 64) (h : Hst w b s tl n) (r : Nat) (q : List UInt8) (hr : r + q.length ≤ 64) : Hst (w.setCells b (8 + r) (cellsL q)) b s (tl2 tl r q) n := by
  refine (rowIs_setCells (cellsL q) (8 + r) w _ h).congr (fun j hj => ?_)
  rw [cellsL_len]
  unfold hF
  by_cases h1 : j < 8
  · rw [if_neg (by omega), if_pos h1, if_pos h1]
  · by_cases h2 : j < 72
    · rw [if_neg h1, if_pos h2]
      have key : by8 (tl2 tl r q) (j - 8) = if 8 + r ≤ j ∧ j < 8 + r + q.length then by8 q (j - (8 + r)) else by8 tl (j - 8) := by
        unfold by8 tl2
        simp only [List.getD_eq_getElem?_getD]
        by_cases c : 8 + r ≤ j ∧ j < 8 + r + q.length
        · rw [if_pos c, List.getElem?_append_left (by simp; omega), List.getElem?_append_right (by simp; omega)]
          simp only [List.length_take, hl]
          rw [show j - 8 - min r 64 = j - (8 + r) by omega]
        · rw [if_neg c]
          by_cases d : j < 8 + r
          · rw [List.append_assoc, List.getElem?_append_left (by simp; omega), List.getElem?_take, if_pos (by omega)]
          · rw [List.getElem?_append_right (by simp; omega), List.getElem?_drop]
            simp only [List.length_append, List.length_take, hl]
            rw [show r + q.length + (j - 8 - (min r 64 + q.length)) = j - 8 by omega]
      rw [key]
      by_cases c : 8 + r ≤ j ∧ j < 8 + r + q.length
      · rw [if_pos c, if_pos c]
        have e := hc_at q (j - (8 + r)) (by omega)
        have e2 : (hc q)[j - (8 + r)]? = (cellsL q)[j - (8 + r)]? := by simp [hc]
        rw [e2] at e
        rw [e, if_neg h1, if_pos h2]; rfl
      · rw [if_neg c, if_neg c, if_neg h1, if_pos h2]
    · rw [if_neg (by omega), if_neg h1, if_neg h2, if_neg h1, if_neg h2]
theorem size5 (w : World) : (sizeOf 5).run Tryz.prog w = .ok 1 w := by kernel_rfl
theorem Hst.copy {w : World} {b : Nat} {s : St} {tl : List UInt8} {n : Nat} (h : Hst w b s tl n) (r : Nat) (hr : r < 64) (q : ByteArray) (C : Nat) :
    (Builtin.copy_ #[258, 9] 3 #[.slice (some ⟨b, 8 + r, none⟩) (64 - r) C, .string q]).run Tryz.prog w = .ok (.int .i64 (min q.size (64 - r) : Nat)) (w.setCells b (8 + r) (cellsL (q.data.toList.take (64 - r)))) := by
  have hlen : (cellsL (q.data.toList.take (64 - r))).length = min q.size (64 - r) := by
    rw [cellsL_len, List.length_take]
    simp
    omega
  have ht := h.there (8 + r) (64 - r) (by omega)
  have hst := run_storeCells_cells (P := Tryz.prog) b (8 + r) (cellsL (q.data.toList.take (64 - r))) 0 w (fun j hj => by simpa using (ht j (by omega)).1) (fun j hj => by simpa using (ht j (by omega)).2) (fun v hv => by simp only [cellsL, List.mem_map] at hv; obtain ⟨b, _, rfl⟩ := hv; rfl)
  rw [Nat.add_zero] at hst
  have htk : List.take (Nat.min q.size (64 - r)) (List.map (fun b : UInt8 => Value.int IntKind.u8 (b.toNat : Int)) q.data.toList) = cellsL (q.data.toList.take (64 - r)) := by
    rw [cellsL, ← List.map_take]
    congr 1
    show List.take (min q.size (64 - r)) _ = _
    by_cases c : q.size ≤ 64 - r
    · rw [Nat.min_eq_left c, List.take_of_length_le (by simp), List.take_of_length_le (by simp; omega)]
    · rw [Nat.min_eq_right (by omega)]
  simp [Builtin.copy_, run_underlying Tryz.underlying258, Builtin.lenOf, Builtin.firstCells, goInt]
  rw [htk, hst]
  simp [Result.andThen]
end Go.Proofs.YtppooipamibhoaaGreatDoor
