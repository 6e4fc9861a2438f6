/- The contracts of the functions that turn numbers into bytes and back: lowFirst, Get, Low, putLow, putCount, Count. -/
import Derived.Test.YtnmffnefkokkeaaA
namespace Go.Proofs.Ytnmffnefkokkeaa
open Go.RowKit
def getL : List UInt8 → Nat
  | [] => 0
  | b :: r => b.toNat + 256 * getL r
theorem getL_lt (l : List UInt8) : getL l < 256 ^ l.length := by
  induction l with
  | nil => simp [getL]
  | cons b r ih =>
    have := b.toNat_lt
    simp only [getL, List.length_cons, Nat.pow_succ]
    omega
theorem getL_drop (l : List UInt8) (k : Nat) (h : k < l.length) : getL (l.drop k) = l[k].toNat + 256 * getL (l.drop (k + 1)) := by
  rw [List.drop_eq_getElem_cons h]; rfl
theorem getL_lt8 (l : List UInt8) (h : l.length ≤ 7) : getL l < 72057594037927936 := by
  have h1 := getL_lt l
  have h2 : 256 ^ l.length ≤ 256 ^ 7 := Nat.pow_le_pow_right (by decide) h
  have h3 : 256 ^ 7 = 72057594037927936 := by decide
  omega
theorem wrapu (x : Int) (h0 : 0 ≤ x) (h1 : x < 18446744073709551616) : IntKind.u64.wrap x = x := by
  simp only [IntKind.wrap, IntKind.signed, IntKind.bits]
  simp
  omega
theorem get_step (s : ByteArray) (j : Nat) (h : j < s.size) (hb : getL (s.data.toList.drop (j + 1)) < 72057594037927936) :
    IntKind.u64.wrap (↑(getL (List.drop (j + 1) s.data.toList)) * 256 + IntKind.u64.wrap ↑s[j].toNat) = (getL (s.data.toList.drop j) : Int) := by
  have e := getL_drop s.data.toList j (by simpa using h)
  have e2 : s.data.toList[j]'(by simpa using h) = s[j] := rfl
  have l := s[j].toNat_lt
  rw [e2] at e
  rw [wrapu (s[j].toNat : Int) (by omega) (by omega), wrapu _ (by omega) (by omega)]
  omega

set_option maxHeartbeats 400000 in
theorem get_any (s : ByteArray) (w : World) (hs : s.size ≤ 8) :
    Calls Try.prog 47 #[.string s] w fun e w' => e = .returned (.int .u64 (getL s.data.toList)) ∧ w' = w := by
  go_enter Try.func47, Try.ntmps47
  go_wp2
  go_loop [3, 4] (fun n i => ∃ k : Nat, k ≤ s.size ∧ i = .int .i64 ((k : Int) - 1) ∧ n = .int .u64 (getL (s.data.toList.drop k))) (fun _ i => (intOf i + 1).toNat)
  case atStart => exact ⟨s.size, Nat.le_refl _, rfl, by rw [List.drop_of_length_le (by simp)]; rfl⟩
  case round =>
    obtain ⟨k, hk, rfl, rfl⟩ := hrel
    by_cases hlt : 0 < k
    · obtain ⟨j, rfl⟩ : ∃ j, k = j + 1 := ⟨k - 1, by omega⟩
      have hb : getL (s.data.toList.drop (j + 1)) < 72057594037927936 := getL_lt8 _ (by simp; omega)
      go_wp2
      exact ⟨⟨j, by omega, rfl, by rw [get_step s j ‹_› hb]⟩, by simp [intOf]⟩
    · go_wp2
      go_ret
      exact ⟨by rw [show k = 0 by omega]; rfl, rfl⟩

theorem wrapb (b : UInt8) : IntKind.u64.wrap (b.toNat : Int) = (b.toNat : Int) := by
  have := b.toNat_lt
  exact wrapu _ (by omega) (by omega)
theorem or_step (s : ByteArray) (j : Nat) (h : j < s.size) (hb : getL (s.data.toList.drop (j + 1)) < 72057594037927936) :
    bits BinOp.or IntKind.u64 (↑(getL (List.drop (j + 1) s.data.toList)) * 256) (IntKind.u64.wrap ↑s[j].toNat) = (getL (s.data.toList.drop j) : Int) := by
  have e := getL_drop s.data.toList j (by simpa using h)
  have e2 : s.data.toList[j]'(by simpa using h) = s[j] := rfl
  have l := s[j].toNat_lt
  rw [e2] at e
  rw [wrapb, bits_join .u64 64 (by decide) (fun n h0 h1 => wrapu n h0 (by simpa using h1)) 8 _ _ (by omega) (by omega) (by omega) (by omega) (by omega) (by omega)]
  omega

set_option maxHeartbeats 400000 in
theorem lowFirst_any (s : ByteArray) (w : World) (hs : s.size ≤ 8) :
    Calls Try.prog 46 #[.string s] w fun e w' => e = .returned (.int .u64 (getL s.data.toList)) ∧ w' = w := by
  go_enter Try.func46, Try.ntmps46
  go_wp2
  go_loop [3, 4] (fun n i => ∃ k : Nat, k ≤ s.size ∧ i = .int .i64 ((k : Int) - 1) ∧ n = .int .u64 (getL (s.data.toList.drop k))) (fun _ i => (intOf i + 1).toNat)
  case atStart => exact ⟨s.size, Nat.le_refl _, rfl, by rw [List.drop_of_length_le (by simp)]; rfl⟩
  case round =>
    obtain ⟨k, hk, rfl, rfl⟩ := hrel
    by_cases hlt : 0 < k
    · obtain ⟨j, rfl⟩ : ∃ j, k = j + 1 := ⟨k - 1, by omega⟩
      have hb : getL (s.data.toList.drop (j + 1)) < 72057594037927936 := getL_lt8 _ (by simp; omega)
      go_wp2
      exact ⟨⟨j, by omega, rfl, by rw [or_step s j ‹_› hb]⟩, by simp [intOf]⟩
    · go_wp2
      go_ret
      exact ⟨by rw [show k = 0 by omega]; rfl, rfl⟩

def lowL (n : Nat) : Nat → List UInt8
  | 0 => []
  | k + 1 => UInt8.ofNat (n % 256) :: lowL (n / 256) k
theorem lowL_len (n k : Nat) : (lowL n k).length = k := by
  induction k generalizing n with
  | zero => rfl
  | succ k ih => simp [lowL, ih]
def U64 (n : Nat) : Prop := n < 18446744073709551616
theorem U64.lt {n : Nat} (h : U64 n) : n < 18446744073709551616 := h
theorem U64.div {n : Nat} (h : U64 n) : U64 (n / 256) := by unfold U64 at *; omega

/-- A one-byte slice that was just built, turned into a string. -/
theorem conv1 (W : World) (b : UInt8) (x : Int) (hx : x = b.toNat) : (convert 40 9 (.slice (some ⟨W.heap.size, 0, none⟩) 1 1)).run Try.prog (W.alloc (.cells #[.int .u8 x] 5)) = .ok (.string ⟨#[b]⟩) (W.alloc (.cells #[.int .u8 x] 5)) := by
  subst hx
  refine run_convert_bytes_back (P := Try.prog) _ 40 9 5 ⟨W.heap.size, 0, none⟩ 1 [b] Try.underlying40 Try.underlying5 Try.underlying9 ?_
  intro j hj
  simp at hj
  subst hj
  simp [go_sem, Addr.add]
theorem byte_of (x : Nat) : ((x : Int) % 256) = ((UInt8.ofNat (x % 256)).toNat : Int) := by
  rw [UInt8.toNat_ofNat']
  omega

set_option maxRecDepth 10000 in
set_option maxHeartbeats 400000 in
theorem low_any (n k : Nat) (K : Int) (hK : K = k) (hn : U64 n) (w : World) (hk : k ≤ 8) :
    Calls Try.prog 48 #[.int .u64 n, .int .i64 K] w fun e w' => e = .returned (.string ⟨(lowL n k).toArray⟩) ∧ Below w.heap.size w w' := by
  subst hK
  go_enter Try.func48, Try.ntmps48
  go_wp2
  go_loopw [0, 5, 6] (fun m o i w' => ∃ (j x : Nat) (l : List UInt8), j ≤ k ∧ i = .int .i64 (j : Int) ∧ m = .int .u64 (x : Nat) ∧ U64 x ∧ o = .string ⟨l.toArray⟩ ∧ Hid (l ++ lowL x (k - j) = lowL n k) ∧ Below w.heap.size w w') (fun _ _ i _ => (k - intOf i).toNat)
  case atStart => exact ⟨0, n, [], Nat.zero_le _, rfl, rfl, hn, rfl, by simp [Hid], Below.refl _ _⟩
  case round =>
    obtain ⟨j, x, l, hj, rfl, rfl, hx, rfl, hl, hg⟩ := hrel
    by_cases hlt : j < k
    · have hc := conv1 wr _ _ (byte_of x)
      have hll : l.length ≤ 8 := by
        have := congrArg List.length hl.out
        simp only [List.length_append, lowL_len] at this
        omega
      go_wp2
      refine ⟨⟨j + 1, x / 256, l ++ [UInt8.ofNat (x % 256)], by omega, by go_num, ?_, hx.div, ?_, ?_, hg.alloc hg.size _⟩, by simp [intOf]; omega⟩
      · have := hx.lt
        rw [wrapu _ (by omega) (by omega)]
        rfl
      · simp [ByteArray.ext_iff]
      · have := hl.out
        rw [show k - j = (k - (j + 1)) + 1 by omega] at this
        simpa [Hid, lowL] using this
    · have he : l = lowL n k := by
        have := hl.out
        rw [show k - j = 0 by omega] at this
        simpa [lowL] using this
      subst he
      go_wp2
      go_ret
      exact ⟨rfl, hg⟩

/-! ### Memory that is appended to -/
/-- w' is w but for v's own row and new blocks; v' lies in v's row or in a new block. -/
structure Onto (w w' : World) (v v' : Value) : Prop where
  grown : w.grownBy w' v.ownBlock
  lies : v'.ownBlock = v.ownBlock ∨ ∃ g, v'.ownBlock = some g ∧ w.heap.size ≤ g
theorem Onto.refl (w : World) (v : Value) : Onto w w v v := ⟨⟨rfl, rfl, rfl, Nat.le_refl _, fun _ _ _ => rfl⟩, .inl rfl⟩
theorem Onto.trans {w w1 w2 : World} {v v1 v2 : Value} (h : Onto w w1 v v1) (k : Onto w1 w2 v1 v2) : Onto w w2 v v2 := by
  obtain ⟨g, l⟩ := h
  obtain ⟨g', l'⟩ := k
  have hs := g.size
  refine ⟨⟨g'.os.trans g.os, g'.tape.trans g.tape, g'.output.trans g.output, Nat.le_trans hs g'.size, fun i hi hne => ?_⟩, ?_⟩
  · rw [g'.block i (by omega) ?_, g.block i hi hne]
    rcases l with l | ⟨b, l, hb⟩
    · rw [l]; exact hne
    · rw [l]; intro e; cases e; omega
  · rcases l' with l' | ⟨b, l', hb⟩
    · rw [l']; exact l
    · exact .inr ⟨b, l', by omega⟩
theorem Onto.alloc {w w' : World} {v v' : Value} (h : Onto w w' v v') (o : Obj) : Onto w (w'.alloc o) v v' := by
  obtain ⟨g, l⟩ := h
  refine ⟨⟨g.os, g.tape, g.output, by have := g.size; simp; omega, fun i hi hne => ?_⟩, l⟩
  rw [Below.heap_alloc _ _ _ (by have := g.size; omega)]
  exact g.block i hi hne
theorem Onto.drew {w w' : World} {v v' : Value} (h : Onto w w' v v') : Onto w w'.drew v v' := by
  obtain ⟨g, l⟩ := h
  exact ⟨⟨g.os, g.tape, g.output, g.size, g.block⟩, l⟩
theorem Onto.below {w w' : World} {v v' : Value} (h : Onto w w' v v') {B : Nat} (hB : B ≤ w.heap.size) (hv : ∀ k, v.ownBlock = some k → B ≤ k) : Below B w w' :=
  (Below.refl B w).grown h.grown hB hv
theorem Onto.far {w w' : World} {v v' : Value} (h : Onto w w' v v') {B : Nat} (hB : B ≤ w.heap.size) (hv : ∀ k, v.ownBlock = some k → B ≤ k) : ∀ k, v'.ownBlock = some k → B ≤ k := by
  intro k hk
  rcases h.lies with l | ⟨b, l, hb⟩
  · rw [l] at hk; exact hv k hk
  · rw [l] at hk; cases hk; omega
/-- The bytes as cells. -/
def cellsL (l : List UInt8) : List Value := l.map fun b => .int .u8 (b.toNat : Int)
theorem cellsL_app (a b : List UInt8) : cellsL (a ++ b) = cellsL a ++ cellsL b := by simp [cellsL]
theorem cellsL_len (a : List UInt8) : (cellsL a).length = a.length := by simp [cellsL]
/-- v is a slice of bytes of the program's own making that holds l. -/
def Own (w : World) (v : Value) (l : List UInt8) : Prop := w.ownsRow 0 5 1 v l.length (cellsL l)
theorem Own.nil (w : World) : Own w (.slice none 0 0) [] := World.ownsRow_nil _ _ _ _

theorem Own.alloc {w : World} {v : Value} {l : List UInt8} (h : Own w v l) (o : Obj) : Own (w.alloc o) v l := World.ownsRow.alloc h o
theorem info5 : (Try.prog.info? 5).map (fun i => (i.zero, i.size, i.bytes)) = some (some (.int .u8 0), 1, 1) := by kernel_rfl

theorem run_app {w : World} {ty : TypeId} {v : Value} {l : List UInt8} (hown : Own w v l) (ad : Addr) (m c : Nat) (news : List UInt8) (hm : m = news.length) (hnews : ∀ j u, (cellsL news)[j]? = some u → w.cell? (ad.add j) = some u)
    (hsm : l.length + m ≤ 140737488355328) :
    ∃ v' w', (Builtin.append_ #[40, 40] ty #[v, .slice (some ad) m c]).run Try.prog w = .ok v' w' ∧ Own w' v' (l ++ news) ∧ Onto w w' v v' := by
  obtain ⟨i0, hi, hz0, hz1, hz2⟩ := info_parts info5
  obtain ⟨v', w', hr, h2, h3, _, h5⟩ := run_append_own_at (P := Try.prog) w 0 40 ty 5 i0 (.int .u8 0) 1 1 Try.underlying40 hi hz0 hz1 hz2 rfl (by decide) v l.length (cellsL l) hown ad m c (cellsL news) (by simp [cellsL_len, hm]) hnews
    (fun u hu => by simp only [cellsL, List.mem_map] at hu; obtain ⟨b, _, rfl⟩ := hu; rfl) (by unfold maxLen; omega) (by omega) (Nat.zero_le _)
  refine ⟨v', w', hr, ?_, ⟨h3, ?_⟩⟩
  · unfold Own
    rw [List.length_append, cellsL_app, ← hm]
    exact h2
  · rcases h5 with h5 | h5
    · exact .inl h5
    · exact .inr ⟨_, h5, Nat.le_refl _⟩
theorem wpList_app {w : World} {ops : Array Oper} {rest : List Oper} {o : Oper} {a : Act} {Q : Exit → Act → World → Prop} (hgd : o.guard = none) (s x : Operand)
    (ho : o.op = .call { callee := .builtin .append, args := #[s, x], argTypes := #[40, 40] })
    (v : Value) (l : List UInt8) (hs : a.eval s = v) (hown : Own w v l)
    (ad : Addr) (m c : Nat) (news : List UInt8) (hx : a.eval x = .slice (some ad) m c) (hm : m = news.length) (hnews : ∀ j u, (cellsL news)[j]? = some u → w.cell? (ad.add j) = some u) (hsm : l.length + m ≤ 140737488355328)
    (h : ∀ v' w', Own w' v' (l ++ news) → Onto w w' v v' → wpList Try.prog ops Q rest (a.put o.dst v') w') :
    wpList Try.prog ops Q (o :: rest) a w := by
  refine wpList_plain hgd fun K hK => ?_
  obtain ⟨v', w', hr, h2, h3⟩ := run_app (ty := o.type) hown ad m c news hm hnews hsm
  unfold Oper.wp execOp
  simp only [ho, resolve, invoke, builtin, Sem.run_bind, Sem.run_pure, Result.andThen_ok, List.map_toArray, List.map_cons, List.map_nil, hs, hx, hr]
  exact hK _ _ (h v' w' h2 h3)
/-- The one cell of a block that was just laid. -/
theorem one_new (w : World) (x : Int) (b : UInt8) (hx : x = b.toNat) : ∀ j u, (cellsL [b])[j]? = some u → (w.alloc (.cells #[.int .u8 x] 5)).cell? ((⟨w.heap.size, 0, none⟩ : Addr).add j) = some u := by
  subst hx
  exact cell_one_new _ _ _

set_option maxRecDepth 10000 in
set_option maxHeartbeats 400000 in
theorem putLow_any (v : Value) (l : List UInt8) (n k : Nat) (K : Int) (hK : K = k) (hn : U64 n) (w : World) (hk : k ≤ 8) (hl : l.length ≤ 70368744177664) (hown : Own w v l) :
    Calls Try.prog 72 #[v, .int .u64 n, .int .i64 K] w fun e w' => ∃ v', e = .returned v' ∧ Own w' v' (l ++ lowL n k) ∧ Onto w w' v v' := by
  subst hK
  go_enter Try.func72, Try.ntmps72
  go_wp2
  go_loopw [0, 1, 8] (fun v1 m i w' => ∃ (j x : Nat) (l1 : List UInt8), j ≤ k ∧ i = .int .i64 (j : Int) ∧ m = .int .u64 (x : Nat) ∧ U64 x ∧ Own w' v1 l1 ∧ Hid (l1 ++ lowL x (k - j) = l ++ lowL n k) ∧ Onto w w' v v1) (fun _ _ i _ => (k - intOf i).toNat)
  case atStart => exact ⟨0, n, l, Nat.zero_le _, rfl, rfl, hn, hown, by simp [Hid], Onto.refl _ _⟩
  case round =>
    obtain ⟨j, x, l1, hj, rfl, rfl, hx, ho, hl1, hon⟩ := hrel
    by_cases hlt : j < k
    · have hll : l1.length ≤ 70368744177672 := by
        have := congrArg List.length hl1.out
        simp only [List.length_append, lowL_len] at this
        omega
      go_wp2_with (at_builtin; refine wpList_app rfl _ _ rfl u0 _ rfl (ho.alloc _) ⟨wr.heap.size, 0, none⟩ 1 1 [UInt8.ofNat (x % 256)] rfl rfl (one_new _ _ _ (byte_of x)) (by omega) ?_; intro v' w3 hown' hon3)
      refine ⟨⟨j + 1, x / 256, _, by omega, by go_num, by rfl, hx.div, hown', ?_, hon.trans (((Onto.refl _ _).alloc _).trans hon3)⟩, by simp [intOf]; omega⟩
      have := hl1.out
      rw [show k - j = (k - (j + 1)) + 1 by omega] at this
      simpa [Hid, lowL] using this
    · have he : l1 = l ++ lowL n k := by
        have := hl1.out
        rw [show k - j = 0 by omega] at this
        simpa [lowL] using this
      subst he
      go_wp2
      go_ret
      exact ⟨u0, rfl, ho, hon⟩

/-- The bytes of a count. -/
def countL (n : Nat) : List UInt8 := if n < 253 then lowL n 1 else if n ≤ 65535 then 253 :: lowL n 2 else if n ≤ 4294967295 then 254 :: lowL n 4 else 255 :: lowL n 8

set_option maxRecDepth 10000 in
set_option maxHeartbeats 400000 in
theorem putCount_any (v : Value) (l : List UInt8) (n : Nat) (hn : U64 n) (w : World) (hl : l.length ≤ 70368744170000) (hown : Own w v l) :
    Calls Try.prog 49 #[v, .int .u64 n] w fun e w' => ∃ v', e = .returned v' ∧ Own w' v' (l ++ countL n) ∧ Onto w w' v v' := by
  by_cases h1 : n < 253
  · have hc : clong n = 1 := by unfold clong; repeat (first | rw [if_pos (by omega)] | rw [if_neg (by omega)])
    have hL : countL n = lowL n 1 := by unfold countL; rw [if_pos h1]
    rw [hL]
    clear hL
    go_enter Try.func49, Try.ntmps49
    go_wp2_with (first | (go_at_call 13; refine (countLong_any _ _).mono ?_; rintro e w1 ⟨rfl, rfl⟩; rw [hc]) | (go_at_call 72; refine (putLow_any v l n 1 1 rfl hn _ (by omega) (by omega) hown).mono ?_; rintro e w' ⟨v', rfl, ho, hon⟩))
    go_ret
    exact ⟨v', rfl, ho, hon⟩
  by_cases h2 : n ≤ 65535
  · have hc : clong n = 3 := by unfold clong; repeat (first | rw [if_pos (by omega)] | rw [if_neg (by omega)])
    have hL : countL n = 253 :: lowL n 2 := by unfold countL; rw [if_neg h1, if_pos h2]
    rw [hL]
    clear hL
    go_enter Try.func49, Try.ntmps49
    go_wp2_with (first | (go_at_call 13; refine (countLong_any _ _).mono ?_; rintro e w1 ⟨rfl, rfl⟩; rw [hc]) | (at_builtin; refine wpList_app rfl _ _ rfl v _ rfl (hown.alloc _) ⟨_, 0, none⟩ 1 1 [253] rfl rfl (one_new _ _ _ rfl) (by omega) ?_; intro v' w3 hown' hon3) | (go_at_call 72; refine (putLow_any v' (l ++ [253]) n 2 2 rfl hn _ (by omega) (by simp; omega) hown').mono ?_; rintro e w' ⟨v2, rfl, ho, hon⟩))
    go_ret
    exact ⟨v2, rfl, by simpa using ho, ((Onto.refl _ _).alloc _).trans (hon3.trans hon)⟩
  by_cases h3 : n ≤ 4294967295
  · have hc : clong n = 5 := by unfold clong; repeat (first | rw [if_pos (by omega)] | rw [if_neg (by omega)])
    have hL : countL n = 254 :: lowL n 4 := by unfold countL; rw [if_neg h1, if_neg h2, if_pos h3]
    rw [hL]
    clear hL
    go_enter Try.func49, Try.ntmps49
    go_wp2_with (first | (go_at_call 13; refine (countLong_any _ _).mono ?_; rintro e w1 ⟨rfl, rfl⟩; rw [hc]) | (at_builtin; refine wpList_app rfl _ _ rfl v _ rfl (hown.alloc _) ⟨_, 0, none⟩ 1 1 [254] rfl rfl (one_new _ _ _ rfl) (by omega) ?_; intro v' w3 hown' hon3) | (go_at_call 72; refine (putLow_any v' (l ++ [254]) n 4 4 rfl hn _ (by omega) (by simp; omega) hown').mono ?_; rintro e w' ⟨v2, rfl, ho, hon⟩))
    go_ret
    exact ⟨v2, rfl, by simpa using ho, ((Onto.refl _ _).alloc _).trans (hon3.trans hon)⟩
  · have hc : clong n = 9 := by unfold clong; repeat (first | rw [if_pos (by omega)] | rw [if_neg (by omega)])
    have hL : countL n = 255 :: lowL n 8 := by unfold countL; rw [if_neg h1, if_neg h2, if_neg h3]
    rw [hL]
    clear hL
    go_enter Try.func49, Try.ntmps49
    go_wp2_with (first | (go_at_call 13; refine (countLong_any _ _).mono ?_; rintro e w1 ⟨rfl, rfl⟩; rw [hc]) | (at_builtin; refine wpList_app rfl _ _ rfl v _ rfl (hown.alloc _) ⟨_, 0, none⟩ 1 1 [255] rfl rfl (one_new _ _ _ rfl) (by omega) ?_; intro v' w3 hown' hon3) | (go_at_call 72; refine (putLow_any v' (l ++ [255]) n 8 8 rfl hn _ (by omega) (by simp; omega) hown').mono ?_; rintro e w' ⟨v2, rfl, ho, hon⟩))
    go_ret
    exact ⟨v2, rfl, by simpa using ho, ((Onto.refl _ _).alloc _).trans (hon3.trans hon)⟩

/-- A slice of bytes of the program's own, turned into a string. -/
theorem conv_own {w : World} {v : Value} {l : List UInt8} (h : Own w v l) : (convert 40 9 v).run Try.prog w = .ok (.string ⟨l.toArray⟩) w := by
  rcases h.2 with ⟨rfl, h0⟩ | ⟨g, cap, cur, rfl, hb, hg, hn, hm, hsz, ht⟩
  · have : l = [] := List.eq_nil_of_length_eq_zero h0
    subst this
    exact run_convert_bytes_nil (P := Try.prog) w 40 5 Try.underlying40 Try.underlying5 0 0 9 Try.underlying9
  · refine run_convert_bytes_back (P := Try.prog) w 40 9 5 ⟨g, 0, none⟩ cap l Try.underlying40 Try.underlying5 Try.underlying9 ?_
    intro j hj
    refine World.ownsRow.cells h rfl j _ ?_
    simp [cellsL, hj]

set_option maxRecDepth 10000 in
set_option maxHeartbeats 400000 in
theorem count_any (n : Nat) (hn : U64 n) (w : World) :
    Calls Try.prog 12 #[.int .u64 n] w fun e w' => e = .returned (.string ⟨(countL n).toArray⟩) ∧ Below w.heap.size w w' := by
  go_enter Try.func12, Try.ntmps12
  go_wp2_with (go_at_call 49; refine (putCount_any (.slice none 0 0) [] n hn _ (by simp) (Own.nil _)).mono ?_; rintro e w' ⟨v', rfl, ho, hon⟩; have hcv := conv_own ho)
  go_ret
  exact ⟨by simp, hon.below (Nat.le_refl _) (by intro k hk; cases hk)⟩

set_option maxRecDepth 10000 in
set_option maxHeartbeats 400000 in
theorem rcount_any (n : Nat) (hn : U64 n) (w : World) :
    Calls Try.prog 10 #[.int .u64 n] w fun e w' => e = .returned (.string ⟨(countL n).toArray⟩) ∧ Below w.heap.size w w' := by
  by_cases h1 : n < 253
  · have hL : countL n = lowL n 1 := by unfold countL; rw [if_pos h1]
    rw [hL]
    clear hL
    go_enter Try.func10, Try.ntmps10
    go_wp2_with (go_at_call 48; refine (low_any n 1 1 rfl hn _ (by omega)).mono ?_; rintro e w' ⟨rfl, hbel⟩)
    go_ret
    exact ⟨rfl, hbel⟩
  by_cases h2 : n ≤ 65535
  · have hL : countL n = 253 :: lowL n 2 := by unfold countL; rw [if_neg h1, if_pos h2]
    rw [hL]
    clear hL
    have hll := lowL_len n 2
    go_enter Try.func10, Try.ntmps10
    go_wp2_with (go_at_call 48; refine (low_any n 2 2 rfl hn _ (by omega)).mono ?_; rintro e w' ⟨rfl, hbel⟩)
    go_ret
    exact ⟨by simp [ByteArray.ext_iff], hbel⟩
  by_cases h3 : n ≤ 4294967295
  · have hL : countL n = 254 :: lowL n 4 := by unfold countL; rw [if_neg h1, if_neg h2, if_pos h3]
    rw [hL]
    clear hL
    have hll := lowL_len n 4
    go_enter Try.func10, Try.ntmps10
    go_wp2_with (go_at_call 48; refine (low_any n 4 4 rfl hn _ (by omega)).mono ?_; rintro e w' ⟨rfl, hbel⟩)
    go_ret
    exact ⟨by simp [ByteArray.ext_iff], hbel⟩
  · have hL : countL n = 255 :: lowL n 8 := by unfold countL; rw [if_neg h1, if_neg h2, if_neg h3]
    rw [hL]
    clear hL
    have hll := lowL_len n 8
    go_enter Try.func10, Try.ntmps10
    go_wp2_with (go_at_call 48; refine (low_any n 8 8 rfl hn _ (by omega)).mono ?_; rintro e w' ⟨rfl, hbel⟩)
    go_ret
    exact ⟨by simp [ByteArray.ext_iff], hbel⟩
end Go.Proofs.Ytnmffnefkokkeaa
