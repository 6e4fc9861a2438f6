/- Bytes of one's own: a text copied over a part of them, a text behind them, a beginning of them. A region that draws its order, walked by hand; names; small calls of a disk. -/
import Derived.Test.YthnfpdmhjennlaaV02
namespace Go.Proofs.Ythnfpdmhjennlaa
open Go.RowKit
open Go.Deep
open Go.Lib
theorem addr_add (g o j : Nat) : (⟨g, o, none⟩ : Addr).add j = ⟨g, o + j, none⟩ := by unfold Addr.add; split <;> simp_all
/-- The slice from a place on. -/
def slv : Value → Nat → Value
  | .slice a n c, k => .slice (if c = k then a else a.map (·.add k)) (n - k) (c - k)
  | v, _ => v
/-- .. up to a place. -/
def cutv : Value → Nat → Value
  | .slice a _ c, k => .slice a k c
  | v, _ => v
section
variable {w : World} {v : Value} {l : List UInt8}
theorem run_slv (h : Own w v l) (k : Nat) (hk : k ≤ l.length) (W : World) : (Instr.slice 77 v (some (.int .i64 (k : Int))) none none).run Try.prog W = .ok (slv v k) W := by
  obtain ⟨ao, n, c, rfl, hn⟩ := h.form
  have hn := hn.out
  have hi : k ≤ n := by omega
  simp [Instr.slice, run_underlying Try.underlying77, Instr.sliceBounds, Instr.sliceBound, asIntOf, hi, slv, Result.andThen]
theorem run_cutv (h : Own w v l) (k : Nat) (hk : k ≤ l.length) (W : World) : (Instr.slice 77 v none (some (.int .i64 (k : Int))) none).run Try.prog W = .ok (cutv v k) W := by
  rcases h.2 with ⟨rfl, h0⟩ | ⟨g, cap, cur, rfl, _, _, hnc, _⟩
  · have : k = 0 := by omega
    subst this
    simp [Instr.slice, run_underlying Try.underlying77, Instr.sliceBounds, Instr.sliceBound, asIntOf, cutv, Result.andThen]
  · have hi : k ≤ cap := by omega
    simp [Instr.slice, run_underlying Try.underlying77, Instr.sliceBounds, Instr.sliceBound, asIntOf, hi, cutv, Result.andThen, addr_add]
theorem run_slvA (h : Own w v l) (k : Nat) (hk : k ≤ l.length) (W : World) : (Instr.sliceAt 77 v (some (.int .i64 (k : Int))) none none).run Try.prog W = .ok (slv v k) W := by
  simp only [Instr.sliceAt, run_underlying Try.underlying77, Sem.run_bind, Result.andThen_ok]
  exact run_slv h k hk W
theorem run_cutvA (h : Own w v l) (k : Nat) (hk : k ≤ l.length) (W : World) : (Instr.sliceAt 77 v none (some (.int .i64 (k : Int))) none).run Try.prog W = .ok (cutv v k) W := by
  simp only [Instr.sliceAt, run_underlying Try.underlying77, Sem.run_bind, Result.andThen_ok]
  exact run_cutv h k hk W
theorem Own.cut (h : Own w v l) (k : Nat) (hk : k ≤ l.length) : Own w (cutv v k) (l.take k) ∧ (cutv v k).ownBlock = v.ownBlock := by
  have hl : (l.take k).length = k := by simp; omega
  rcases h.2 with ⟨rfl, h0⟩ | ⟨g, cap, cur, rfl, hb, hg, hnc, hm, hsz, ht⟩
  · have : l = [] := List.eq_nil_of_length_eq_zero h0
    subst this
    have : k = 0 := by simpa using hk
    subst this
    exact ⟨Own.nil w, rfl⟩
  · refine ⟨⟨by rw [cellsL_len, hl]; omega, .inr ⟨g, cap, cur, by rw [hl]; rfl, hb, hg, by omega, hm, hsz, ?_⟩⟩, rfl⟩
    rw [hl, Nat.mul_one]
    rw [Nat.mul_one] at ht
    have e : cellsL (l.take k) = (cellsL l).take k := by simp [cellsL]
    rw [e, ← ht, List.take_take, Nat.min_eq_left hk]
/-- How many bytes a copy turns. -/
def cpn (l : List UInt8) (k : Nat) (s : ByteArray) : Nat := min s.size (l.length - k)
/-- .. and what is there then. -/
def cpl (l : List UInt8) (k : Nat) (s : ByteArray) : List UInt8 := l.take k ++ s.data.toList.take (cpn l k s) ++ l.drop (k + cpn l k s)
theorem run_copyS (h : Own w v l) (k : Nat) (hk : k ≤ l.length) (s : ByteArray) (ty : TypeId) : ∃ w1, (Builtin.copy_ #[77, 9] ty #[slv v k, .string s]).run Try.prog w = .ok (.int .i64 (cpn l k s : Nat)) w1 ∧ Own w1 v (cpl l k s) ∧ Onto w w1 v v := by
  obtain ⟨i0, hi, hz0, hz1, hz2⟩ := info_parts info5
  have hss : (List.map (fun b : UInt8 => Value.int IntKind.u8 (b.toNat : Int)) s.data.toList).length = s.size := by simp
  rcases h.2 with ⟨rfl, h0⟩ | ⟨g, cap, cur, rfl, hb, hg, hnc, hm, hsz, ht⟩
  · have : l = [] := List.eq_nil_of_length_eq_zero h0
    subst this
    have : k = 0 := by simpa using hk
    subst this
    refine ⟨w, ?_, by simpa [cpl, cpn] using Own.nil w, Onto.refl _ _⟩
    simp [Builtin.copy_, run_underlying Try.underlying77, Builtin.lenOf, Builtin.firstCells, sizeOf, typeInfo, hi, slv, cpn, goInt, Result.andThen]
  · have hcs : cur.size = cap := by simpa using hsz
    rw [Nat.mul_one] at ht
    have hmn : cpn l k s ≤ l.length - k := Nat.min_le_right _ _
    have hms : cpn l k s ≤ s.size := Nat.min_le_left _ _
    have hsl : s.data.toList.length = s.size := by simp
    have htk : List.take (cpn l k s) (List.map (fun b : UInt8 => Value.int IntKind.u8 (b.toNat : Int)) s.data.toList) = cellsL (s.data.toList.take (cpn l k s)) := by
      rw [cellsL, ← List.map_take]
    have hcl : (cellsL (s.data.toList.take (cpn l k s))).length = cpn l k s := by rw [cellsL_len, List.length_take]; omega
    have hst := run_storeCells_at Try.prog g k 5 (cellsL (s.data.toList.take (cpn l k s))) 0 cur w hg (by rw [hcl]; omega) (fun u hu => by simp only [cellsL, List.mem_map] at hu; obtain ⟨b, _, rfl⟩ := hu; rfl)
    simp only [Nat.add_zero, hcl] at hst
    have hcur : cur.toList.take l.length = cellsL l := ht
    refine ⟨w.setRow g (cur.toList.take k ++ cellsL (s.data.toList.take (cpn l k s)) ++ cur.toList.drop (k + cpn l k s)).toArray, ?_, ?_, ⟨⟨rfl, rfl, rfl, by simp, fun j _ hj => setRow_other w g j _ (fun e => hj (by simp [Value.ownBlock, e]))⟩, .inl rfl⟩⟩
    · have hmin : Nat.min s.size (l.length - k) = cpn l k s := rfl
      by_cases c : cap = k
      · have hc0 : cpn l k s = 0 := by omega
        have e0 : cur.toList.take k ++ cellsL (s.data.toList.take (cpn l k s)) ++ cur.toList.drop (k + cpn l k s) = cur.toList := by
          rw [hc0]
          simp [cellsL]
        rw [e0]
        have e1 : w.setRow g cur.toList.toArray = w := by
          have := run_storeCells_at Try.prog g 0 5 [] 0 cur w hg (by simp) (by simp)
          simp at this
          simpa [storeCells] using this.symm
        rw [e1]
        simp [Builtin.copy_, run_underlying Try.underlying77, Builtin.lenOf, Builtin.firstCells, sizeOf, typeInfo, hi, slv, goInt, hmin, c, hc0, storeCells, Result.andThen]
      · have hsl2 : slv (.slice (some ⟨g, 0, none⟩) l.length cap) k = .slice (some ⟨g, k, none⟩) (l.length - k) (cap - k) := by
          simp [slv, c, addr_add]
        rw [hsl2]
        simp [Builtin.copy_, run_underlying Try.underlying77, Builtin.lenOf, Builtin.firstCells, sizeOf, typeInfo, hi, goInt, hmin]
        rw [htk, hst]
        simp [Result.andThen]
    · have hlen : (cpl l k s).length = l.length := by
        simp [cpl]
        omega
      refine ⟨by rw [cellsL_len, Nat.mul_one], .inr ⟨g, cap, _, by rw [hlen], Nat.zero_le _, setRow_heap w g cur _ _ _ hg, by omega, hm, ?_, ?_⟩⟩
      · simp [cellsL_len]
        omega
      · rw [hlen, Nat.mul_one]
        have e1 : cellsL (cpl l k s) = (cellsL l).take k ++ cellsL (s.data.toList.take (cpn l k s)) ++ (cellsL l).drop (k + cpn l k s) := by
          simp [cpl, cellsL]
        rw [e1, ← hcur]
        show List.take l.length (cur.toList.take k ++ cellsL (s.data.toList.take (cpn l k s)) ++ cur.toList.drop (k + cpn l k s)) = _
        generalize cellsL (s.data.toList.take (cpn l k s)) = B at *
        rw [List.take_take, Nat.min_eq_left hk, List.drop_take]
        have e2 : (cur.toList.take k ++ B).length = k + cpn l k s := by rw [List.length_append, List.length_take, hcl, Array.length_toList]; omega
        rw [List.take_append, List.take_of_length_le (l := cur.toList.take k ++ B) (by omega), e2]
/-- A text behind one's own bytes. -/
theorem run_appS (h : Own w v l) (s : ByteArray) (ty : TypeId) (hsm : l.length + s.size ≤ 140737488355328) : ∃ v' w', (Builtin.append_ #[77, 9] ty #[v, .string s]).run Try.prog w = .ok v' w' ∧ Own w' v' (l ++ s.data.toList) ∧ Onto w w' v v' := by
  obtain ⟨i0, hi, hz0, hz1, hz2⟩ := info_parts info5
  have hmx : l.length + s.size ≤ maxLen := by unfold maxLen; omega
  have fin : ∀ {v' : Value} {w' : World} {base : Nat}, w'.ownsRow base 5 1 v' (l.length + s.size) (cellsL l ++ strCells s) → Own w' v' (l ++ s.data.toList) := fun {v' w' base} ho => by
    have e : cellsL (l ++ s.data.toList) = cellsL l ++ strCells s := by simp [cellsL, strCells]
    refine ⟨by rw [cellsL_len, Nat.mul_one], ?_⟩
    rw [e, show (l ++ s.data.toList).length = l.length + s.size by simp]
    rcases ho.2 with h1 | ⟨g, cap, cur, h1, _, h3⟩
    · exact .inl h1
    · exact .inr ⟨g, cap, cur, h1, Nat.zero_le _, h3⟩
  rcases h.2 with ⟨hv, h0⟩ | ⟨g, cap, cur, hv, hb, hg, hnc, hm, hsz, ht⟩
  · have hl : l = [] := List.eq_nil_of_length_eq_zero h0
    subst hl
    subst hv
    obtain ⟨v', w', hr, ho, hgr, _⟩ := run_append_own_string (P := Try.prog) w w.heap.size 77 9 ty 5 i0 Try.underlying77 Try.underlying9 hi hz0 hz1 hz2 (.slice none 0 0) 0 [] (World.ownsRow_nil _ _ _ _) s (by simpa using hmx) (by simpa using hsm) (Nat.le_refl _)
    refine ⟨v', w', hr, fin (by simpa [cellsL] using ho), hgr, ?_⟩
    cases hb : v'.ownBlock with
    | none => exact .inl rfl
    | some g => exact .inr ⟨g, rfl, (ho.lt g hb).1⟩
  · subst hv
    obtain ⟨v', w', hr, ho, hgr, _⟩ := run_append_own_string (P := Try.prog) w 0 77 9 ty 5 i0 Try.underlying77 Try.underlying9 hi hz0 hz1 hz2 _ l.length (cellsL l) h s hmx hsm (Nat.zero_le _)
    refine ⟨v', w', hr, fin ho, hgr, ?_⟩
    by_cases hroom : l.length + s.size ≤ cap
    · have hr2 := run_append_room_string (P := Try.prog) w 77 9 ty 5 i0 Try.underlying77 Try.underlying9 hi hz1 g l.length cap cur hg s hroom (by omega)
      rw [hr] at hr2
      injection hr2 with e1 e2
      rw [e1]
      exact .inl rfl
    · have hr2 := run_append_grow_string (P := Try.prog) w 77 9 ty 5 i0 (.int .u8 0) Try.underlying77 Try.underlying9 hi hz0 ⟨g, 0, none⟩ l.length cap (cellsL l) (by rw [hz1, cellsL_len, Nat.mul_one]) (World.ownsRow.cells h rfl) s (by omega) (by omega) (by rw [hz2]; exact growslice_fits (by omega) (by omega))
      rw [hr] at hr2
      injection hr2 with e1 e2
      rw [e1]
      exact .inr ⟨_, rfl, Nat.le_refl _⟩
end
/-- What a write leaves: a text stands from a place on. -/
def wr8 (l : List UInt8) (k : Nat) (s : List UInt8) : List UInt8 := l.take k ++ s ++ l.drop (k + s.length)
theorem cp_app (l : List UInt8) (k : Nat) (s : ByteArray) (hk : k ≤ l.length) : cpl l k s ++ s.data.toList.drop (cpn l k s) = wr8 l k s.data.toList := by
  unfold cpl wr8 cpn
  have hs : s.data.toList.length = s.size := by simp
  by_cases c : s.size ≤ l.length - k
  · rw [Nat.min_eq_left c, List.take_of_length_le (l := s.data.toList) (by omega), List.drop_of_length_le (l := s.data.toList) (by omega), List.append_nil, hs]
  · rw [Nat.min_eq_right (by omega), List.drop_of_length_le (l := l) (i := k + (l.length - k)) (by omega), List.drop_of_length_le (l := l) (by omega), List.append_nil, List.append_nil, List.append_assoc, List.take_append_drop]
end Go.Proofs.Ythnfpdmhjennlaa
namespace Go.Proofs.Ythnfpdmhjennlaa
open Go.RowKit
open Go.Deep
open Go.Lib
section
variable {ops : Array Oper} {S : World → Prop} {o : Oper} {a : Act}
theorem yl_load (hw : Region.wanted o (yielded ops a.tmps) = true) {t : TypeId} (x : Operand) (ho : o.op = .load t x) (v : Value) (c : Value) (hx : a.eval x = v) (hr : ∀ W, S W → (Instr.loadAt t v).run Try.prog W = .ok c W) : YieldsIf Try.prog ops S o c a :=
  .inl ⟨hw, fun W hW => by
    unfold execOp
    simp only [ho, hx, hr W hW, Sem.run_bind, Result.andThen_ok, Sem.run_pure]⟩
theorem yl_move (hw : Region.wanted o (yielded ops a.tmps) = true) (x : Operand) (ho : o.op = .move x) (v : Value) (hx : a.eval x = v) : YieldsIf Try.prog ops S o v a :=
  .inl ⟨hw, fun W _ => by
    unfold execOp
    simp only [ho, hx, Sem.run_pure]⟩
theorem yl_slice (hw : Region.wanted o (yielded ops a.tmps) = true) {t : TypeId} (x : Operand) (lo hi : Option Operand) (ho : o.op = .slice t x lo hi none) (v r : Value) (hx : a.eval x = v) (vl vh : Option Value) (hl : lo.map a.eval = vl) (hh : hi.map a.eval = vh) (hr : ∀ W, (Instr.sliceAt t v vl vh none).run Try.prog W = .ok r W) : YieldsIf Try.prog ops S o r a :=
  .inl ⟨hw, fun W hW => by
    unfold execOp
    simp only [ho, hx, hl, hh, Option.map_none, hr W, Sem.run_bind, Result.andThen_ok, Sem.run_pure]⟩
end
/-! ### Names -/
/-- May a byte stand in a name? -/
def ofName (b : UInt8) : Bool := (decide (97 ≤ b.toNat) && decide (b.toNat ≤ 122)) || (decide (48 ≤ b.toNat) && decide (b.toNat ≤ 57)) || b.toNat == 46 || b.toNat == 45
def isName (l : List UInt8) : Bool := l.all ofName && decide (1 ≤ l.length) && decide (l.length ≤ 32)
set_option maxHeartbeats 1000000 in
theorem ofName_any (b : UInt8) (w : World) : Calls Try.prog 62 #[.int .u8 (b.toNat : Int)] w fun e w' => e = .returned (.bool (ofName b)) ∧ w' = w := by
  unfold ofName
  generalize b.toNat = x
  by_cases h1 : (97 : Int) ≤ x <;> by_cases h2 : (x : Int) ≤ 122 <;> by_cases h3 : (48 : Int) ≤ x <;> by_cases h4 : (x : Int) ≤ 57 <;> by_cases h5 : (x : Int) = 46 <;> by_cases h6 : (x : Int) = 45
  all_goals first | omega | skip
  all_goals
    have g1 : (97 ≤ x) = ((97 : Int) ≤ x) := by apply propext; omega
    have g2 : (x ≤ 122) = ((x : Int) ≤ 122) := by apply propext; omega
    have g3 : (48 ≤ x) = ((48 : Int) ≤ x) := by apply propext; omega
    have g4 : (x ≤ 57) = ((x : Int) ≤ 57) := by apply propext; omega
    have g5 : (x == 46) = decide ((x : Int) = 46) := by rw [Bool.eq_iff_iff]; simp; omega
    have g6 : (x == 45) = decide ((x : Int) = 45) := by rw [Bool.eq_iff_iff]; simp; omega
    simp only [g1, g2, g3, g4, g5, g6, h1, h2, h3, h4, h5, h6]
    clear g1 g2 g3 g4 g5 g6
    go_enter Try.func62, Try.ntmps62
    go_wp2
    go_ret
    exact ⟨by first | rfl | simp [h5, h6], rfl⟩
theorem all_snoc (s : ByteArray) (k : Nat) (h : k < s.size) : (s.data.toList.take (k + 1)).all ofName = ((s.data.toList.take k).all ofName && ofName s[k]) := by
  rw [List.take_succ_eq_append_getElem (by simpa using h)]
  simp
  rfl
set_option maxHeartbeats 1000000 in
theorem isName_any (s : ByteArray) (w : World) (hs : s.size ≤ maxLen) : Calls Try.prog 50 #[.string s] w fun e w' => e = .returned (.bool (isName s.data.toList)) ∧ w' = w := by
  unfold maxLen at hs
  go_enter Try.func50, Try.ntmps50
  go_wp2
  go_loop [6] (fun i => ∃ k : Nat, k ≤ s.size ∧ i = .int .i64 k ∧ Hid ((s.data.toList.take k).all ofName = true)) (fun i => s.size - (intOf i).toNat)
  case atStart => exact ⟨0, Nat.zero_le _, rfl, rfl⟩
  case round =>
    obtain ⟨k, hk, rfl, ha⟩ := hrel
    by_cases hlt : k < s.size
    · have hsn := hide (all_snoc s k hlt)
      have HB := hide fun W => ofName_any s[k] W
      cases hb : ofName s[k]
      · have hno : Hid (isName s.data.toList = false) := by
          have h1 := hsn.out
          rw [hb, Bool.and_false] at h1
          show _ = _
          unfold isName
          have h2 : s.data.toList.all ofName = false := by
            rw [← List.take_append_drop (k + 1) s.data.toList, List.all_append, h1, Bool.false_and]
          rw [h2, Bool.false_and, Bool.false_and]
        rw [hb] at HB
        clear hsn hb
        go_wp2_with (go_at_call 62; refine (HB.out _).mono ?_; rintro e w' ⟨rfl, rfl⟩)
        go_ret
        exact ⟨by rw [hno.out]; rfl, rfl⟩
      · have hyes : Hid ((s.data.toList.take (k + 1)).all ofName = true) := by
          show _ = _
          rw [hsn.out, ha.out, hb]
          rfl
        rw [hb] at HB
        clear hsn hb
        go_wp2_with (go_at_call 62; refine (HB.out _).mono ?_; rintro e w' ⟨rfl, rfl⟩)
        go_round
        case rel => exact ⟨k + 1, by omega, by go_num, hyes⟩
        case measure => simp [intOf]; omega
    · have hke : k = s.size := by omega
      subst hke
      have hall : Hid (isName s.data.toList = (decide (1 ≤ s.size) && decide (s.size ≤ 32))) := by
        show _ = _
        unfold isName
        have h1 := ha.out
        rw [List.take_of_length_le (by simp)] at h1
        rw [h1, Bool.true_and]
        simp
      by_cases h1 : (1 : Int) ≤ s.size <;> by_cases h2 : (s.size : Int) ≤ 32
      all_goals
        go_wp2
        go_ret
        refine ⟨?_, rfl⟩
        rw [hall.out]
        have e1 : (1 ≤ s.size) = ((1 : Int) ≤ s.size) := by apply propext; omega
        have e2 : (s.size ≤ 32) = ((s.size : Int) ≤ 32) := by apply propext; omega
        simp [e1, e2, h1, h2]
end Go.Proofs.Ythnfpdmhjennlaa
