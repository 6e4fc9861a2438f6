/- The contracts of find, Read, Size and Up. The contracts of strikes (without a plan) and torn. A disk behind a play of its files, and with a loose change more. -/
import Derived.Test.YtgncphoaknffnaaDoorX16
namespace Go.Proofs.YtgncphoaknffnaaDoor
open Go.RowKit
open Go.Deep
open Go.Lib
/-- The error of a call that needs a file. -/
def fnd (x : StD) (nm : ByteArray) : Int := if rdy x.dead [nm] = 0 then (if (x.now.get (ls nm)).isSome then 0 else 2) else rdy x.dead [nm]
theorem rdy_cases (d : Bool) (N : List ByteArray) : rdy d N = 0 ∨ rdy d N = 7 ∨ rdy d N = 70 := by
  unfold rdy
  split
  · exact .inr (.inl rfl)
  · split
    · exact .inl rfl
    · exact .inr (.inr rfl)
theorem one_name (w : World) (nm : ByteArray) (h : nm.size ≤ maxLen) : NmAt (w.alloc (.cells #[.string nm] 9)) w.heap.size [nm] := fun i s hs => by
  have : i = 0 := by
    rcases Nat.lt_or_ge i 1 with h' | h'
    · omega
    · rw [List.getElem?_eq_none (by simpa using h')] at hs
      cases hs
  subst this
  simp at hs
  subst hs
  exact ⟨by rw [cell_of_row _ _ _ _ _ _ (heap_alloc_last w _)]; rfl, h⟩
section
set_option maxRecDepth 10000
set_option maxHeartbeats 1000000
theorem find_nil (nm : ByteArray) (w : World) : Calls Tryd.prog 76 #[.pointer none, .string nm] w fun e w' => e = .returned (.tuple #[.slice none 0 0, .int .i64 7]) ∧ Below w.heap.size w w' := by
  have HD := hide fun v W => ready_nil v W
  have hB : Hid (Below w.heap.size w (w.alloc (.cells #[.string nm] 9))) := (Below.refl _ _).alloc (Nat.le_refl _) _
  go_enter Tryd.func76, Tryd.ntmps76
  go_wp2_with (go_at_call 86; refine (HD.out _ _).mono ?_; rintro e w1 ⟨rfl, hw⟩; subst w1)
  go_ret2
  exact ⟨rfl, hB.out⟩
theorem find_any (gd : Nat) (x : StD) (T : Nat → Prop) (nm : ByteArray) (w : World) (h : DK w gd x T) (hm : nm.size ≤ maxLen) : Calls Tryd.prog 76 #[.pointer (some ⟨gd, 0, none⟩), .string nm] w fun e w' => (∃ v, e = .returned (.tuple #[v, .int .i64 (fnd x nm)]) ∧ Own w' v (if fnd x nm = 0 then x.now.at (ls nm) else [])) ∧ Below w.heap.size w w' := by
  obtain ⟨S1, S2, mn, ms, vo, vp, h⟩ := h
  have hB : Below w.heap.size w (w.alloc (.cells #[.string nm] 9)) := (Below.refl _ _).alloc (Nat.le_refl _) _
  have h1 := h.below hB
  have c5 := h1.cell 5 (by decide)
  have c0 := h1.cell 0 (by decide)
  rw [show dc mn ms vo vp x.made x.dead 5 = .bool x.dead from rfl] at c5
  rw [show dc mn ms vo vp x.made x.dead 0 = .map mn from rfl] at c0
  have HR := hide (ready_any gd x.dead w.heap.size 1 [nm] _ c5 (one_name w nm hm) (by simp))
  rw [show [nm].length = 1 from rfl] at HR
  obtain ⟨v, hl1, hl2, ov⟩ := h1.now.look hm
  obtain ⟨ao, n, c, rfl, _⟩ := ov.form
  have HB := hide hB
  have OV := hide ov
  unfold fnd
  clear h h1 hm hB ov hl1 c5
  rcases rdy_cases x.dead [nm] with hr | hr | hr
  · rw [hr, if_pos rfl]
    rw [hr] at HR
    cases hg : (x.now.get (ls nm)).isSome
    · rw [hg] at hl2
      rw [if_neg (by decide), if_neg (by decide)]
      clear hg hr
      go_enter Tryd.func76, Tryd.ntmps76
      go_wp2_with (go_at_call 86; refine HR.out.mono ?_; rintro e w1 ⟨rfl, hw⟩; subst w1)
      go_ret2
      exact ⟨⟨_, rfl, Own.nil _⟩, HB.out⟩
    · rw [hg] at hl2
      rw [if_pos rfl, if_pos rfl]
      clear hg hr
      go_enter Tryd.func76, Tryd.ntmps76
      go_wp2_with (go_at_call 86; refine HR.out.mono ?_; rintro e w1 ⟨rfl, hw⟩; subst w1)
      go_ret2
      exact ⟨⟨_, rfl, OV.out⟩, HB.out⟩
  all_goals
    rw [hr, if_neg (by decide), if_neg (by decide)]
    rw [hr] at HR
    clear hr
    go_enter Tryd.func76, Tryd.ntmps76
    go_wp2_with (go_at_call 86; refine HR.out.mono ?_; rintro e w1 ⟨rfl, hw⟩; subst w1)
    go_ret2
    exact ⟨⟨_, rfl, Own.nil _⟩, HB.out⟩
theorem read_nil (nm : ByteArray) (w : World) : Calls Tryd.prog 64 #[.pointer none, .string nm] w fun e w' => e = .returned (.tuple #[.string ⟨#[]⟩, .int .i64 7]) ∧ Below w.heap.size w w' := by
  have HD := hide (find_nil nm w)
  have hc := fun W => conv_own (Own.nil W)
  go_enter Tryd.func64, Tryd.ntmps64
  go_wp2_with (go_at_call 76; refine HD.out.mono ?_; rintro e w1 ⟨rfl, hb⟩; have HB := hide hb; clear hb)
  go_ret2
  exact ⟨rfl, HB.out⟩
theorem read_any (gd : Nat) (x : StD) (T : Nat → Prop) (nm : ByteArray) (w : World) (h : DK w gd x T) (hm : nm.size ≤ maxLen) : Calls Tryd.prog 64 #[.pointer (some ⟨gd, 0, none⟩), .string nm] w fun e w' => e = .returned (.tuple #[.string ⟨(if fnd x nm = 0 then x.now.at (ls nm) else []).toArray⟩, .int .i64 (fnd x nm)]) ∧ Below w.heap.size w w' := by
  have HD := hide (find_any gd x T nm w h hm)
  generalize (if fnd x nm = 0 then x.now.at (ls nm) else []) = L at *
  generalize fnd x nm = E at *
  clear h
  go_enter Tryd.func64, Tryd.ntmps64
  go_wp2_with (go_at_call 76; refine HD.out.mono ?_; rintro e w1 ⟨⟨v, rfl, o⟩, hb⟩; have HB := hide hb; have hc := conv_own o; clear hb o)
  go_ret2
  exact ⟨rfl, HB.out⟩
theorem size_nil (nm : ByteArray) (w : World) : Calls Tryd.prog 61 #[.pointer none, .string nm] w fun e w' => e = .returned (.tuple #[.int .i64 0, .int .i64 7]) ∧ Below w.heap.size w w' := by
  have HD := hide (find_nil nm w)
  go_enter Tryd.func61, Tryd.ntmps61
  go_wp2_with (go_at_call 76; refine HD.out.mono ?_; rintro e w1 ⟨rfl, hb⟩; have HB := hide hb; clear hb)
  go_ret2
  exact ⟨rfl, HB.out⟩
theorem size_any (gd : Nat) (x : StD) (T : Nat → Prop) (nm : ByteArray) (w : World) (h : DK w gd x T) (hm : nm.size ≤ maxLen) : Calls Tryd.prog 61 #[.pointer (some ⟨gd, 0, none⟩), .string nm] w fun e w' => e = .returned (.tuple #[.int .i64 ((if fnd x nm = 0 then x.now.at (ls nm) else []).length : Int), .int .i64 (fnd x nm)]) ∧ Below w.heap.size w w' := by
  have HD := hide (find_any gd x T nm w h hm)
  generalize (if fnd x nm = 0 then x.now.at (ls nm) else []) = L at *
  generalize fnd x nm = E at *
  clear h
  go_enter Tryd.func61, Tryd.ntmps61
  go_wp2_with (go_at_call 76; refine HD.out.mono ?_; rintro e w1 ⟨⟨v, rfl, o⟩, hb⟩; obtain ⟨ao, n, c, rfl, hn⟩ := o.form; have HB := hide hb; clear hb o)
  go_ret2
  exact ⟨by rw [← hn.out]; rfl, HB.out⟩
theorem DP.setDead {w : World} {gd : Nat} {x : StD} {T S1 S2 : Nat → Prop} {mn ms : Option Nat} {vo vp : Value} (h : DP w gd x T S1 S2 mn ms vo vp) (d : Bool) : DP (w.setCell ⟨gd, 5, none⟩ (.bool d)) gd { x with dead := d } T S1 S2 mn ms vo vp := by
  have hb : ∀ g, g ≠ gd → (w.setCell ⟨gd, 5, none⟩ (.bool d)).heap[g]? = w.heap[g]? := fun g hg => Below.heap_setCell _ _ _ _ hg
  have hs : (w.setCell ⟨gd, 5, none⟩ (.bool d)).heap.size = w.heap.size := by simp [World.setCell]
  refine ⟨(World.rowIs.set h.row 5 (.bool d)).congr fun i hi => ?_, h.now.frame (by omega) fun g hg => hb g fun e => h.d1 (e ▸ hg), h.sure.frame (by omega) fun g hg => hb g fun e => h.d2 (e ▸ hg), rowsOf h.loose fun g hg => hb g (h.l1 g hg).2.2, rowsOf h.plan fun g hg => hb g (h.p1 g hg).2.2, h.tg, h.t1, h.t2, h.tl, h.tp, h.apart, h.d1, h.d2, h.l1, h.p1, fun g hg => by rw [hs]; exact h.lt g hg⟩
  have : i = 0 ∨ i = 1 ∨ i = 2 ∨ i = 3 ∨ i = 4 ∨ i = 5 := by omega
  rcases this with rfl | rfl | rfl | rfl | rfl | rfl <;> rfl
end
end Go.Proofs.YtgncphoaknffnaaDoor
namespace Go.Proofs.YtgncphoaknffnaaDoor
open Go.RowKit
open Go.Deep
open Go.Lib
section
set_option maxRecDepth 10000
set_option maxHeartbeats 1000000
theorem index_none (ao : Option Addr) (cap : Nat) (fv : Value) (w : World) : Calls Tryd.prog 90 #[.slice ao 0 cap, fv] w fun e w' => e = .returned (.int .i64 (-1)) ∧ w' = w := by
  go_enter Tryd.func90, Tryd.ntmps90
  go_wp2
  go_loop [8] (fun i => i = .int .i64 0) (fun _ => 0)
  case atStart => rfl
  case round =>
    subst hrel
    go_wp2
    go_ret
    exact ⟨rfl, rfl⟩
theorem strikes_none (gd : Nat) (x : StD) (T : Nat → Prop) (b : Bool) (w : World) (h : DK w gd x T) (hp : x.plan = []) : Calls Tryd.prog 71 #[.pointer (some ⟨gd, 0, none⟩), .bool b] w fun e w' => e = .returned (.bool false) ∧ Below w.heap.size w w' := by
  obtain ⟨S1, S2, mn, ms, vo, vp, h⟩ := h
  have hpl := h.plan
  rw [hp] at hpl
  have hv : ∃ ao cap, vp = .slice ao 0 cap := by
    rcases hpl.2 with ⟨rfl, _⟩ | ⟨g, cap, cur, rfl, _⟩
    · exact ⟨_, _, rfl⟩
    · exact ⟨_, _, rfl⟩
  obtain ⟨ao, cap, rfl⟩ := hv
  have hB : Below w.heap.size w ((w.alloc (.cells #[.pointer (some ⟨gd, 0, none⟩)] 37)).alloc (.cells #[.bool b] 4)) := ((Below.refl _ _).alloc (Nat.le_refl _) _).alloc (by simp) _
  have c4 := (h.below hB).cell 4 (by decide)
  rw [show dc mn ms vo (.slice ao 0 cap) x.made x.dead 4 = .slice ao 0 cap from rfl] at c4
  have HB := hide hB
  have HI := hide fun fv W => index_none ao cap fv W
  clear h hB hpl hp
  go_enter Tryd.func71, Tryd.ntmps71
  go_wp2_with (go_at_call 90; refine (HI.out _ _).mono ?_; rintro e w1 ⟨rfl, hw⟩; subst w1)
  go_ret
  exact ⟨rfl, HB.out⟩
/-- What of a change stays when the power fails at it. -/
def tornC (c : Ch) (n : Int) : Ch := ⟨c.kind, c.name, c.dst, c.pos, c.s.extract 0 (min n.toNat c.s.size)⟩
def tornB (c : Ch) (n : Int) : Bool := decide (c.kind = 0) && decide (1 ≤ n)
theorem torn_no (c : Ch) (n : Int) (w : World) (h : tornB c n = false) : Calls Tryd.prog 69 #[.agg (chv c), .int .i64 n] w fun e w' => e = .returned (.tuple #[.agg zch, .bool false]) ∧ Below w.heap.size w w' := by
  unfold tornB at h
  unfold chv zch
  have h0 := ACh.alloc
  have hb0 := ACh.build
  unfold zch at h0 hb0
  by_cases hk : (c.kind : Int) = 0
  · have hn : ¬ 1 ≤ n := fun e => by
      have : c.kind = 0 := by omega
      simp [this, e] at h
    have hn1 : n < 1 := by omega
    clear h hn
    go_enter Tryd.func69, Tryd.ntmps69
    go_wp2
    refine bodyPost_ret (v := .tuple #[.agg #[.int .i64 0, .string ⟨#[]⟩, .string ⟨#[]⟩, .int .i64 0, .string ⟨#[]⟩], .bool false]) ?_ rfl ⟨rfl, ((Below.refl _ _).alloc (Nat.le_refl _) _).alloc (by simp) _⟩
    unfold results
    rw [Tryd.results69]
    go_simp
  · have hk1 : ((c.kind : Int) == 0) = false := by simpa using hk
    clear h
    go_enter Tryd.func69, Tryd.ntmps69
    go_wp2
    refine bodyPost_ret (v := .tuple #[.agg #[.int .i64 0, .string ⟨#[]⟩, .string ⟨#[]⟩, .int .i64 0, .string ⟨#[]⟩], .bool false]) ?_ rfl ⟨rfl, ((Below.refl _ _).alloc (Nat.le_refl _) _).alloc (by simp) _⟩
    unfold results
    rw [Tryd.results69]
    go_simp
theorem torn_yes (c : Ch) (n : Int) (w : World) (h : tornB c n = true) : Calls Tryd.prog 69 #[.agg (chv c), .int .i64 n] w fun e w' => e = .returned (.tuple #[.agg (chv (tornC c n)), .bool true]) ∧ Below w.heap.size w w' := by
  unfold tornB at h
  simp only [Bool.and_eq_true, decide_eq_true_eq] at h
  obtain ⟨hk, hn⟩ := h
  have hk0 : (c.kind : Int) = 0 := by omega
  have hn1 : ¬ n < 1 := by omega
  unfold tornC chv
  have h0 := ACh.alloc
  unfold zch at h0
  by_cases hl : n ≤ (c.s.size : Int)
  · rw [show min n.toNat c.s.size = n.toNat by omega]
    have i0 : (0 : Int) ≤ n := by omega
    go_enter Tryd.func69, Tryd.ntmps69
    go_wp2
    refine bodyPost_ret (v := .tuple #[.agg #[.int .i64 0, .string c.name, .string c.dst, .int .i64 (c.pos : Int), .string (c.s.extract 0 n.toNat)], .bool true]) ?_ rfl ⟨rfl, ((Below.refl _ _).alloc (Nat.le_refl _) _).alloc (by simp) _⟩
    unfold results
    rw [Tryd.results69]
    go_simp
  · have hx : c.s.extract 0 (min n.toNat c.s.size) = c.s := by
      rw [show min n.toNat c.s.size = c.s.size by omega]
      exact ByteArray.extract_zero_size
    rw [hx]
    have hl1 : (c.s.size : Int) < n := by omega
    go_enter Tryd.func69, Tryd.ntmps69
    go_wp2
    refine bodyPost_ret (v := .tuple #[.agg #[.int .i64 0, .string c.name, .string c.dst, .int .i64 (c.pos : Int), .string c.s], .bool true]) ?_ rfl ⟨rfl, ((Below.refl _ _).alloc (Nat.le_refl _) _).alloc (by simp) _⟩
    unfold results
    rw [Tryd.results69]
    go_simp
end
end Go.Proofs.YtgncphoaknffnaaDoor
namespace Go.Proofs.YtgncphoaknffnaaDoor
open Go.RowKit
open Go.Deep
open Go.Lib
theorem infoCh : (Tryd.prog.info? 104).map (fun i => (i.zero, i.size, i.bytes)) = some (some (.agg zch), 5, 64) := by kernel_rfl
section
variable {W w' : World} {gd b : Nat} {x : StD} {T S1 S2 : Nat → Prop} {mn ms : Option Nat} {vo vp : Value} {F : List UInt8 → Option Value} {f' : FS}
theorem DP.played0 (h : DP W gd x T S1 S2 mn ms vo vp) (hf : Fs w' b F f' (grow S1 W w')) (hr : w'.rowIs gd 71 6 (up1 (dc mn ms vo vp x.made x.dead) 0 (.map (some b)))) (fr : Fr (fun g => S1 g ∨ g = gd) W w') : DP w' gd { x with now := f' } (grow T W w') (grow S1 W w') S2 (some b) ms vo vp ∧ Fr T W w' := by
  have hT : Fr T W w' := fr.mono fun g hg => by
    rcases hg with hg | rfl
    · exact h.t1 g hg
    · exact h.tg
  have hb : ∀ g, T g → ¬ S1 g → g ≠ gd → w'.heap[g]? = W.heap[g]? := fun g ht h1 h2 => fr.block g (h.lt g ht) fun e => by
    rcases e with e | e
    · exact h1 e
    · exact h2 e
  refine ⟨⟨hr.congr fun i hi => ?_, .inr ⟨b, F, rfl, hf⟩, h.sure.frame fr.size fun g hg => hb g (h.t2 g hg) (fun e => h.apart g e hg) fun e => h.d2 (e ▸ hg), rowsOf h.loose fun g hg => hb g (h.tl g hg) (h.l1 g hg).1 (h.l1 g hg).2.2, rowsOf h.plan fun g hg => hb g (h.tp g hg) (h.p1 g hg).1 (h.p1 g hg).2.2, .inl h.tg, fun g hg => ?_, fun g hg => .inl (h.t2 g hg), fun g hg => .inl (h.tl g hg), fun g hg => .inl (h.tp g hg), fun g hg h2 => ?_, fun hg => ?_, h.d2, fun g hg => ⟨fun e => ?_, (h.l1 g hg).2⟩, fun g hg => ⟨fun e => ?_, (h.p1 g hg).2⟩, grow_lt h.lt fr.size⟩, hT⟩
  · have : i = 0 ∨ i = 1 ∨ i = 2 ∨ i = 3 ∨ i = 4 ∨ i = 5 := by omega
    rcases this with rfl | rfl | rfl | rfl | rfl | rfl <;> rfl
  · rcases hg with hg | hg
    · exact .inl (h.t1 g hg)
    · exact .inr hg
  · rcases hg with hg | ⟨hg, _⟩
    · exact h.apart g hg h2
    · have := h.lt g (h.t2 g h2)
      omega
  · rcases hg with hg | ⟨hg, _⟩
    · exact h.d1 hg
    · have := h.lt gd h.tg
      omega
  · rcases e with e | ⟨e, _⟩
    · exact (h.l1 g hg).1 e
    · have := h.lt g (h.tl g hg)
      omega
  · rcases e with e | ⟨e, _⟩
    · exact (h.p1 g hg).1 e
    · have := h.lt g (h.tp g hg)
      omega
theorem DP.played1 (h : DP W gd x T S1 S2 mn ms vo vp) (hf : Fs w' b F f' (grow S2 W w')) (hr : w'.rowIs gd 71 6 (up1 (dc mn ms vo vp x.made x.dead) 1 (.map (some b)))) (fr : Fr (fun g => S2 g ∨ g = gd) W w') : DP w' gd { x with sure := f' } (grow T W w') S1 (grow S2 W w') mn (some b) vo vp ∧ Fr T W w' := by
  have hT : Fr T W w' := fr.mono fun g hg => by
    rcases hg with hg | rfl
    · exact h.t2 g hg
    · exact h.tg
  have hb : ∀ g, T g → ¬ S2 g → g ≠ gd → w'.heap[g]? = W.heap[g]? := fun g ht h1 h2 => fr.block g (h.lt g ht) fun e => by
    rcases e with e | e
    · exact h1 e
    · exact h2 e
  refine ⟨⟨hr.congr fun i hi => ?_, h.now.frame fr.size fun g hg => hb g (h.t1 g hg) (fun e => h.apart g hg e) fun e => h.d1 (e ▸ hg), .inr ⟨b, F, rfl, hf⟩, rowsOf h.loose fun g hg => hb g (h.tl g hg) (h.l1 g hg).2.1 (h.l1 g hg).2.2, rowsOf h.plan fun g hg => hb g (h.tp g hg) (h.p1 g hg).2.1 (h.p1 g hg).2.2, .inl h.tg, fun g hg => .inl (h.t1 g hg), fun g hg => ?_, fun g hg => .inl (h.tl g hg), fun g hg => .inl (h.tp g hg), fun g h1 hg => ?_, h.d1, fun hg => ?_, fun g hg => ⟨(h.l1 g hg).1, fun e => ?_, (h.l1 g hg).2.2⟩, fun g hg => ⟨(h.p1 g hg).1, fun e => ?_, (h.p1 g hg).2.2⟩, grow_lt h.lt fr.size⟩, hT⟩
  · have : i = 0 ∨ i = 1 ∨ i = 2 ∨ i = 3 ∨ i = 4 ∨ i = 5 := by omega
    rcases this with rfl | rfl | rfl | rfl | rfl | rfl <;> rfl
  · rcases hg with hg | hg
    · exact .inl (h.t2 g hg)
    · exact .inr hg
  · rcases hg with hg | ⟨hg, _⟩
    · exact h.apart g h1 hg
    · have := h.lt g (h.t1 g h1)
      omega
  · rcases hg with hg | ⟨hg, _⟩
    · exact h.d2 hg
    · have := h.lt gd h.tg
      omega
  · rcases e with e | ⟨e, _⟩
    · exact (h.l1 g hg).2.1 e
    · have := h.lt g (h.tl g hg)
      omega
  · rcases e with e | ⟨e, _⟩
    · exact (h.p1 g hg).2.1 e
    · have := h.lt g (h.tp g hg)
      omega
theorem chs_snoc (l : List Ch) (c : Ch) : chs (l ++ [c]) = chs l ++ (chv c).toList := by simp [chs]
/-- A change behind the loose ones. -/
theorem run_appC {w : World} {l : List Ch} {ty : TypeId} (h : w.ownsRow 0 104 5 vo l.length (chs l)) (g : Nat) (c : Ch) (hg : w.heap[g]? = some (.cells (chv c) 104 (0, 0))) (hl : l.length ≤ 100000) : ∃ v' w', (Builtin.append_ #[68, 68] ty #[vo, .slice (some ⟨g, 0, none⟩) 1 1]).run Tryd.prog w = .ok v' w' ∧ w'.ownsRow 0 104 5 v' (l ++ [c]).length (chs (l ++ [c])) ∧ Onto w w' vo v' := by
  obtain ⟨i0, hi, hz0, hz1, hz2⟩ := info_parts infoCh
  obtain ⟨v', w', hr, h2, h3, _, h5⟩ := run_append_own_at (P := Tryd.prog) w 0 68 ty 104 i0 (.agg zch) 5 64 Tryd.underlying68 hi hz0 hz1 hz2 rfl (by decide) vo l.length (chs l) h ⟨g, 0, none⟩ 1 1 (chv c).toList rfl
    (fun j u hu => by
      rw [addr_add, Nat.zero_add, cell_of_row _ _ _ _ _ _ hg]
      simpa using hu)
    (fun u hu => by
      have := chv_one c
      rw [Array.all_eq_true_iff_forall_mem] at this
      exact this u (by simpa using hu)) (by unfold maxLen; omega) (by omega) (Nat.zero_le _)
  refine ⟨v', w', hr, ?_, ⟨h3, ?_⟩⟩
  · rw [chs_snoc, List.length_append]
    exact h2
  · rcases h5 with h5 | h5
    · exact .inl h5
    · exact .inr ⟨_, h5, Nat.le_refl _⟩
/-- A loose change more: the append, then the store of its list. -/
theorem DP.more (h : DP W gd x T S1 S2 mn ms vo vp) {l' : List Ch} {v' : Value} (ho : w'.ownsRow 0 104 5 v' l'.length (chs l')) (on : Onto W w' vo v') : DP (w'.setCell ⟨gd, 2, none⟩ v') gd { x with loose := l' } (grow T W w') S1 S2 mn ms v' vp ∧ Fr T W (w'.setCell ⟨gd, 2, none⟩ v') := by
  have hs := on.grown.size
  have hz : (w'.setCell ⟨gd, 2, none⟩ v').heap.size = w'.heap.size := by simp [World.setCell]
  have hb1 : ∀ g, T g → vo.ownBlock ≠ some g → w'.heap[g]? = W.heap[g]? := fun g ht hne => on.grown.block g (h.lt g ht) fun e => hne e.symm
  have hb : ∀ g, T g → vo.ownBlock ≠ some g → g ≠ gd → (w'.setCell ⟨gd, 2, none⟩ v').heap[g]? = W.heap[g]? := fun g ht hne hg => (Below.heap_setCell _ _ _ _ hg).trans (hb1 g ht hne)
  have nd : vo.ownBlock ≠ some gd := fun e => (h.l1 gd e).2.2 rfl
  have hrow := World.rowIs.set (World.rowIs.of_block h.row (hb1 gd h.tg nd)) 2 v'
  have far : ∀ g, v'.ownBlock = some g → vo.ownBlock = some g ∨ (W.heap.size ≤ g ∧ g < w'.heap.size) := fun g hg => by
    rcases on.lies with e | ⟨g2, e, hge⟩
    · rw [e] at hg
      exact .inl hg
    · have := (ho.lt g hg).2
      rw [e] at hg
      cases hg
      exact .inr ⟨hge, this⟩
  have l1 : ∀ g, v'.ownBlock = some g → ¬ S1 g ∧ ¬ S2 g ∧ g ≠ gd := fun g hg => by
    rcases far g hg with e | ⟨e, _⟩
    · exact h.l1 g e
    · refine ⟨fun c => ?_, fun c => ?_, fun c => ?_⟩
      · have := h.lt g (h.t1 g c)
        omega
      · have := h.lt g (h.t2 g c)
        omega
      · have := h.lt gd h.tg
        omega
  have hvp : ∀ g, vp.ownBlock = some g → vo.ownBlock ≠ some g := fun g hg e => by
    rcases h.plan.2 with ⟨rfl, _⟩ | ⟨g1, cap, cur, rfl, _, hg1, _⟩
    · cases hg
    · rcases h.loose.2 with ⟨rfl, _⟩ | ⟨g2, cap2, cur2, rfl, _, hg2, _⟩
      · cases e
      · cases hg
        cases e
        rw [hg1] at hg2
        injection hg2 with hg2
        injection hg2 with _ e2
        exact absurd e2 (by decide)
  refine ⟨⟨hrow.congr fun i hi => ?_, h.now.frame (by omega) fun g hg => hb g (h.t1 g hg) (fun e => (h.l1 g e).1 hg) fun e => h.d1 (e ▸ hg), h.sure.frame (by omega) fun g hg => hb g (h.t2 g hg) (fun e => (h.l1 g e).2.1 hg) fun e => h.d2 (e ▸ hg), rowsOf ho fun g hg => Below.heap_setCell _ _ _ _ (l1 g hg).2.2, rowsOf h.plan fun g hg => hb g (h.tp g hg) (hvp g hg) (h.p1 g hg).2.2, .inl h.tg, fun g hg => .inl (h.t1 g hg), fun g hg => .inl (h.t2 g hg), fun g hg => ?_, fun g hg => .inl (h.tp g hg), h.apart, h.d1, h.d2, l1, h.p1, fun g hg => by rw [hz]; exact grow_lt h.lt hs g hg⟩, ?_⟩
  · have : i = 0 ∨ i = 1 ∨ i = 2 ∨ i = 3 ∨ i = 4 ∨ i = 5 := by omega
    rcases this with rfl | rfl | rfl | rfl | rfl | rfl <;> rfl
  · rcases far g hg with e | e
    · exact .inl (h.tl g e)
    · exact .inr e
  · exact (Fr.of_grown on.grown h.tl).trans' (Fr.setCell _ h.tg _)
/-- Another number of changes. -/
theorem DP.setMade (h : DP W gd x T S1 S2 mn ms vo vp) (n : Nat) : DP (W.setCell ⟨gd, 3, none⟩ (.int .i64 (n : Int))) gd { x with made := n } T S1 S2 mn ms vo vp := by
  have hb : ∀ g, g ≠ gd → (W.setCell ⟨gd, 3, none⟩ (.int .i64 (n : Int))).heap[g]? = W.heap[g]? := fun g hg => Below.heap_setCell _ _ _ _ hg
  have hs : (W.setCell ⟨gd, 3, none⟩ (.int .i64 (n : Int))).heap.size = W.heap.size := by simp [World.setCell]
  refine ⟨(World.rowIs.set h.row 3 (.int .i64 (n : Int))).congr fun i hi => ?_, h.now.frame (by omega) fun g hg => hb g fun e => h.d1 (e ▸ hg), h.sure.frame (by omega) fun g hg => hb g fun e => h.d2 (e ▸ hg), rowsOf h.loose fun g hg => hb g (h.l1 g hg).2.2, rowsOf h.plan fun g hg => hb g (h.p1 g hg).2.2, h.tg, h.t1, h.t2, h.tl, h.tp, h.apart, h.d1, h.d2, h.l1, h.p1, fun g hg => by rw [hs]; exact h.lt g hg⟩
  have : i = 0 ∨ i = 1 ∨ i = 2 ∨ i = 3 ∨ i = 4 ∨ i = 5 := by omega
  rcases this with rfl | rfl | rfl | rfl | rfl | rfl <;> rfl
/-- No loose change any more. -/
theorem DP.noLoose (h : DP W gd x T S1 S2 mn ms vo vp) : DP (W.setCell ⟨gd, 2, none⟩ (.slice none 0 0)) gd { x with loose := [] } T S1 S2 mn ms (.slice none 0 0) vp := by
  have hb : ∀ g, g ≠ gd → (W.setCell ⟨gd, 2, none⟩ (.slice none 0 0)).heap[g]? = W.heap[g]? := fun g hg => Below.heap_setCell _ _ _ _ hg
  have hs : (W.setCell ⟨gd, 2, none⟩ (.slice none 0 0)).heap.size = W.heap.size := by simp [World.setCell]
  refine ⟨(World.rowIs.set h.row 2 (.slice none 0 0)).congr fun i hi => ?_, h.now.frame (by omega) fun g hg => hb g fun e => h.d1 (e ▸ hg), h.sure.frame (by omega) fun g hg => hb g fun e => h.d2 (e ▸ hg), World.ownsRow_nil _ _ _ _, rowsOf h.plan fun g hg => hb g (h.p1 g hg).2.2, h.tg, h.t1, h.t2, fun g hg => (by cases hg), h.tp, h.apart, h.d1, h.d2, fun g hg => (by cases hg), h.p1, fun g hg => by rw [hs]; exact h.lt g hg⟩
  have : i = 0 ∨ i = 1 ∨ i = 2 ∨ i = 3 ∨ i = 4 ∨ i = 5 := by omega
  rcases this with rfl | rfl | rfl | rfl | rfl | rfl <;> rfl
end
end Go.Proofs.YtgncphoaknffnaaDoor
