/- Hashes as texts (a seat without sha): the contracts of num.Hex, turn and Text. -/
import Derived.Test.YtmfpnlnhebjelaaG0
namespace Go.Proofs.Ytmfpnlnhebjelaa
open Go.RowKit
open Go.Deep
theorem step_app {w : World} {ops : Array Oper} {o : Oper} {a : Act} {K : Act → World → Prop} {Q : Exit → Act → World → Prop} {E : Prop} (hgd : o.guard = none) (s x : Operand)
    (ho : o.op = .call { callee := .builtin .append, args := #[s, x], argTypes := #[72, 72] })
    (v : Value) (l : List UInt8) (hs : a.eval s = v) (hown : Own w v l)
    (ad : Addr) (m c : Nat) (news : List UInt8) (hx : a.eval x = .slice (some ad) m c) (hm : m = news.length) (hnews : ∀ j u, (cellsL news)[j]? = some u → w.cell? (ad.add j) = some u) (hsm : l.length + m ≤ 140737488355328)
    (h : ∀ v' w', Own w' v' (l ++ news) → Onto w w' v v' → K (a.put o.dst v') w') :
    if Region.wanted o (yielded ops a.tmps) = true then Oper.wp Try.prog o a w K Q else E := by
  have hw : Region.wanted o (yielded ops a.tmps) = true := by simp [Region.wanted, hgd]
  rw [if_pos hw]
  obtain ⟨v', w', hr, h2, h3⟩ := run_app (ty := o.type) hown ad m c news hm hnews hsm
  unfold Oper.wp execOp
  simp only [ho, resolve, invoke, builtin, Sem.run_bind, Sem.run_pure, Result.andThen_ok, List.map_toArray, List.map_cons, List.map_nil, hs, hx, hr]
  exact h v' w' h2 h3

def hexb (n : Nat) : UInt8 := if n < 10 then UInt8.ofNat (48 + n) else UInt8.ofNat (87 + n)
def hexL : List UInt8 → List UInt8
  | [] => []
  | b :: r => hexb (b.toNat / 16) :: hexb (b.toNat % 16) :: hexL r
theorem hexL_len (l : List UInt8) : (hexL l).length = 2 * l.length := by
  induction l with
  | nil => rfl
  | cons b r ih => simp [hexL, ih]; omega
theorem hexL_app (a b : List UInt8) : hexL (a ++ b) = hexL a ++ hexL b := by
  induction a with
  | nil => rfl
  | cons x r ih => simp [hexL, ih]
theorem take_snoc (s : ByteArray) (k : Nat) (h : k < s.size) : s.data.toList.take (k + 1) = s.data.toList.take k ++ [s[k]] := by
  rw [List.take_succ_eq_append_getElem (by simpa using h)]; rfl
theorem hexL_snoc (s : ByteArray) (k : Nat) (h : k < s.size) : hexL (s.data.toList.take (k + 1)) = hexL (s.data.toList.take k) ++ [hexb (s[k].toNat / 16), hexb (s[k].toNat % 16)] := by
  rw [take_snoc s k h, hexL_app]; rfl
theorem dig_all : ∀ n : Fin 16, (⟨#[48, 49, 50, 51, 52, 53, 54, 55, 56, 57, 97, 98, 99, 100, 101, 102]⟩ : ByteArray)[n.val] = hexb n.val := by decide
theorem dig_at (n : Nat) (h : n < 16) (z : Int) (hz : z = n) (hh : z.toNat < (⟨#[48, 49, 50, 51, 52, 53, 54, 55, 56, 57, 97, 98, 99, 100, 101, 102]⟩ : ByteArray).size) :
    (((⟨#[48, 49, 50, 51, 52, 53, 54, 55, 56, 57, 97, 98, 99, 100, 101, 102]⟩ : ByteArray)[z.toNat].toNat : Nat) : Int) = ((hexb n).toNat : Int) := by
  subst hz
  have := dig_all ⟨n, h⟩
  simp only [Int.toNat_natCast]
  rw [← this]
theorem two_new (w : World) (x y : Int) (b c : UInt8) (hx : x = b.toNat) (hy : y = c.toNat) : ∀ j u, (cellsL [b, c])[j]? = some u → (w.alloc (.cells #[.int .u8 x, .int .u8 y] 5)).cell? ((⟨w.heap.size, 0, none⟩ : Addr).add j) = some u := by
  subst hx hy
  exact cell_two_new _ _ _ _

set_option maxRecDepth 10000 in
set_option maxHeartbeats 400000 in
theorem hex_any (s : ByteArray) (w : World) (hs : s.size ≤ 35184372088832) :
    Calls Try.prog 58 #[.string s] w fun e w' => e = .returned (.string ⟨(hexL s.data.toList).toArray⟩) ∧ Below w.heap.size w w' := by
  obtain ⟨i0, hi, hz0, hz1, hz2⟩ := info_parts info5
  go_enter Try.func58, Try.ntmps58
  go_wp2_with (at_make; refine wpList_make_own _ rfl _ _ 72 rfl 0 5 i0 (.int .u8 0) 1 Try.underlying72 hi hz0 hz1 _ _ _ (2 * s.size) rfl rfl (by omega) (by rw [hz2]; omega) (by unfold maxLen; omega) (Nat.zero_le _) ?_; intro w1 hown1 hgrow1)
  go_loopw [3, 4, 11] (fun v _ i wr => ∃ k : Nat, k ≤ s.size ∧ i = .int .i64 k ∧ Own wr v (hexL (s.data.toList.take k)) ∧ Below w.heap.size w wr ∧ ∀ g, v.ownBlock = some g → w.heap.size ≤ g) (fun _ _ i _ => (s.size - intOf i).toNat)
  case atStart => exact ⟨0, Nat.zero_le _, rfl, hown1, (Below.refl _ _).grown hgrow1 (Nat.le_refl _) (by intro k hk; cases hk), by intro g hg; cases hg; exact Nat.le_refl _⟩
  case round =>
    obtain ⟨k, hk, rfl, ho, hbel, hfar⟩ := hrel
    by_cases hlt : k < s.size
    · have hx := s[k].toNat_lt
      have hlen : (hexL (s.data.toList.take k)).length ≤ 70368744177664 := by rw [hexL_len]; simp; omega
      have hi1 : 0 ≤ (s[k].toNat : Int) / 16 ∧ (s[k].toNat : Int) / 16 < 16 := by omega
      have hi2 : 0 ≤ (s[k].toNat : Int) % 16 ∧ (s[k].toNat : Int) % 16 < 16 := by omega
      have hand : bits BinOp.and IntKind.u8 (s[k].toNat : Int) 15 = (s[k].toNat : Int) % 16 := u8_and15 _ (by omega) (by omega)
      have hk0 : (0 : Int) ≤ k := by omega
      have hk1 : (k : Int) < s.size := by omega
      go_wp2
      go_region_law ((refine step_app (by rfl) _ _ (by rfl) _ _ (by rfl) (ho.alloc _) ⟨_, 0, none⟩ 2 2 [hexb (s[k].toNat / 16), hexb (s[k].toNat % 16)] (by rfl) rfl (two_new _ _ _ _ _ (dig_at _ (by omega) _ (by omega) _) (dig_at _ (by omega) _ (by omega) _)) (by simp; omega) ?_; intro v' w3 hown' hon3))
      all_goals go_wp2
      all_goals
        have hon : Onto wr w3 u3 v' := (((Onto.refl _ _).alloc _).drew).trans hon3
        exact ⟨⟨k + 1, by omega, by go_num, by rw [hexL_snoc s k hlt]; exact hown', hbel.trans (hon.below hbel.size hfar), hon.far hbel.size hfar⟩, by simp [intOf]; omega⟩
    · have hk' : s.data.toList.take k = s.data.toList := List.take_of_length_le (by simp; omega)
      rw [hk'] at ho
      have hcv := conv_own ho
      go_wp2
      go_ret
      exact ⟨rfl, hbel⟩
/-- The byte k of a hash. -/
def hb (h : List UInt8) (k : Nat) : Int := (h.getD k 0).toNat
theorem hcb_at (h : List UInt8) (k : Nat) (hk : k < h.length) : (hc h)[k]? = some (.int .u8 (hb h k)) := by
  simp [hc, cellsL, hb, hk]
theorem row_of_hc {wr : World} {g : Nat} {h : List UInt8} (hl : h.length = 32) {t : TypeId} (hg : wr.heap[g]? = some (.cells (hc h) t (0, 0))) : wr.rowIs g t 32 (fun j => .int .u8 (hb h j)) :=
  ⟨hc h, hg, by rw [hc_size, hl], fun i hi => hcb_at h i (by omega)⟩
theorem hc_of_row {wr : World} {g : Nat} {h : List UInt8} (hl : h.length = 32) {t : TypeId} {f : Nat → Value} (hr : wr.rowIs g t 32 f) (hf : ∀ i, i < 32 → f i = .int .u8 (hb h i)) : wr.heap[g]? = some (.cells (hc h) t (0, 0)) := by
  obtain ⟨c, hg, hn, hcs⟩ := hr
  rw [hg]
  have : c = hc h := by
    apply Array.ext
    · rw [hc_size, hl, hn]
    · intro i h1 h2
      have e := hcs i (by omega)
      rw [hf i (by omega), ← hcb_at h i (by omega), Array.getElem?_eq_getElem h1, Array.getElem?_eq_getElem h2] at e
      exact Option.some.inj e
  rw [this]
/-- What is turned behind k rounds. -/
def turnF (h : List UInt8) (k j : Nat) : Value := if 31 - j < k then .int .u8 (hb h (31 - j)) else .int .u8 0
theorem turnF_step (h : List UInt8) (k j : Nat) (hk : k < 32) (hj : j < 32) : (if j = 31 - k then Value.int .u8 (hb h k) else turnF h k j) = turnF h (k + 1) j := by
  unfold turnF
  by_cases e : j = 31 - k
  · rw [if_pos e, if_pos (by omega), show 31 - j = k by omega]
  · rw [if_neg e]
    by_cases e2 : 31 - j < k
    · rw [if_pos e2, if_pos (by omega)]
    · rw [if_neg e2, if_neg (by omega)]
theorem turnF_end (h : List UInt8) (hl : h.length = 32) (j : Nat) (hj : j < 32) : turnF h 32 j = .int .u8 (hb h.reverse j) := by
  unfold turnF hb
  rw [if_pos (by omega), List.getD_eq_getElem?_getD, List.getD_eq_getElem?_getD, List.getElem?_reverse (by omega), hl]
theorem turnF_zero (h : List UInt8) (j : Nat) (hj : j < 32) : turnF h 0 j = .int .u8 (hb zeros j) := by
  unfold turnF hb zeros
  rw [if_neg (by omega), List.getD_eq_getElem?_getD, List.getElem?_replicate, if_pos hj]
  rfl
section
set_option maxRecDepth 10000
set_option maxHeartbeats 400000
theorem hturn_any (h : List UInt8) (hl : h.length = 32) (w : World) : Calls Try.prog 57 #[.agg (hc h)] w fun e w' => e = .returned (.agg (hc h.reverse)) ∧ Below w.heap.size w w' := by
  go_enter Try.func57, Try.ntmps57
  go_wp2_with (first | refine wpList_boxA rfl _ rfl (hc h) rfl ?_ | refine wpList_allocA A25 rfl rfl ?_)
  obtain ⟨b0, b1, b2⟩ := blk3 w (.cells (hc h) 29) (.cells (hc zeros) 29) (.cells (hc zeros) 29)
  have R0 := hide (row_of_hc hl b0)
  have R1 := hide b1
  have R2 := hide ((row_of_hc zeros_len b2).congr (fun i hi => (turnF_zero h i hi).symm))
  have BB : Hid (Below w.heap.size w (((w.alloc (.cells (hc h) 29)).alloc (.cells (hc zeros) 29)).alloc (.cells (hc zeros) 29))) := (((Below.refl _ _).alloc (Nat.le_refl _) _).alloc (by simp) _).alloc (by simp; omega) _
  clear b0 b1 b2
  go_loopw [4, 5] (fun _ c wr => ∃ k : Nat, k ≤ 32 ∧ c = .int .i64 k ∧ Hid (wr.rowIs w.heap.size 29 32 (fun j => .int .u8 (hb h j))) ∧ Hid (wr.heap[w.heap.size + 1]? = some (.cells (hc zeros) 29 (0, 0))) ∧ Hid (wr.rowIs (w.heap.size + 1 + 1) 29 32 (turnF h k)) ∧ Hid (Below w.heap.size w wr)) (fun _ c _ => (32 - intOf c).toNat)
  case atStart => exact ⟨0, by omega, rfl, R0, R1, R2, BB⟩
  case round =>
    clear R0 R1 R2 BB
    obtain ⟨k, hk, rfl, r0, r1, r2, bb⟩ := hrel
    by_cases hlt : k < 32
    · have c0 := r0.out.cell hlt
      have f2 := r2.out.frozen (31 - k)
      have c2 := r2.out.cell (show 31 - k < 32 by omega)
      have ht : ((31 : Int) - k).toNat = 31 - k := by omega
      have hk' : (k : Int) < 32 := by omega
      have hw : IntKind.i64.wrap (31 - (k : Int)) = 31 - k := by simp only [IntKind.wrap, IntKind.signed, IntKind.bits]; simp; omega
      go_wp2
      exact ⟨⟨k + 1, by omega, by go_num, hide (r0.out.setOther (by simp; omega) _), hide ((blk_setCell_other _ _ _ _ (by simp)).trans r1.out), hide ((r2.out.set _ _).congr (fun i hi => turnF_step h k i hlt hi)), hide (bb.out.setCell (by simp; omega) _)⟩, by simp [intOf]; omega⟩
    · have hke : k = 32 := by omega
      subst hke
      have hl' : h.reverse.length = 32 := by rw [List.length_reverse, hl]
      have H2 := hc_of_row hl' r2.out (turnF_end h hl)
      go_wp2_with (first | refine wpList_loadA A25 rfl _ rfl _ rfl (hc h.reverse) (by rw [hc_size, hl']) 29 H2 ?_ | refine wpList_storeA A25 rfl _ _ rfl _ (hc h.reverse) (by rw [hc_size, hl']) (hc_one _) rfl rfl (hc zeros) A25.zsize 29 r1.out ?_)
      exact bodyPost_ret (v := .agg (hc h.reverse)) (resA A25 Try.results57 _ _ (w.heap.size + 1) 29 (hc h.reverse) (by rw [hc_size, hl']) rfl (setRow_heap _ _ _ _ _ _ r1.out)) rfl ⟨rfl, below_setRow bb.out (by omega) _⟩
theorem numText_any (h : List UInt8) (hl : h.length = 32) (w : World) : Calls Try.prog 41 #[.agg (hc h)] w fun e w' => e = .returned (.string ⟨(hexL h.reverse).toArray⟩) ∧ Below w.heap.size w w' := by
  have hl' : h.reverse.length = 32 := by rw [List.length_reverse, hl]
  have hz : (⟨h.reverse.toArray⟩ : ByteArray).size ≤ 35184372088832 := by
    show h.reverse.toArray.size ≤ _
    rw [List.size_toArray, hl']
    decide
  have HT := hide fun W => hturn_any h hl W
  have HH := hide fun W => hex_any ⟨h.reverse.toArray⟩ W hz
  have B1 := hide ((Below.refl w.heap.size w).alloc (Nat.le_refl _) (.cells (hc h) 29))
  go_enter Try.func41, Try.ntmps41
  go_wp2_with (first | refine wpList_boxA rfl _ rfl (hc h) rfl ?_ | refine wpList_loadA A25 rfl _ rfl _ rfl (hc h) (by rw [hc_size, hl]) 29 (heap_alloc_last w _) ?_ | (go_at_call 57; refine (HT.out _).mono ?_; rintro e w1 ⟨rfl, hb1⟩; have B2 := hide (B1.out.trans (hb1.mono (by simp))); have hcv := conv_row (w1.alloc (.cells (hc h.reverse) 29)) w1.heap.size h.reverse hl' 29 (heap_alloc_last w1 _)) | refine wpList_allocA A25 rfl rfl ?_ | refine wpList_store_newA A25 rfl _ _ rfl _ rfl _ (by rw [hc_size, hl']) (hc_one _) rfl rfl ?_ | (go_at_call 58; refine (HH.out _).mono ?_; rintro e w2 ⟨rfl, hb2⟩))
  go_ret
  exact ⟨rfl, (B2.out.alloc B2.out.size _).trans (hb2.mono (by have := B2.out.size; simp; omega))⟩
end
end Go.Proofs.Ytmfpnlnhebjelaa
