/- The contracts of find, Read, Size and Up. The contracts of strikes (without a plan) and torn. Disks: does a plan say that the power fails here? Lists of elements of any kind in memory: read, made, appended to. -/
import Derived.Test.YthnfpdmhjennlaaV07
import Derived.Test.YthnfpdmhjennlaaV01
import Derived.Great.BuildSlice
import Derived.Deep.MidRow
namespace Go.Proofs.Ythnfpdmhjennlaa
open Go.RowKit
open Go.Deep
open Go.Lib
/-- The error of a call that needs a file. -/
def fnd (x : St) (nm : ByteArray) : Int := if rdy x.dead [nm] = 0 then (if (x.now.get (ls nm)).isSome then 0 else 2) else rdy x.dead [nm]
theorem rdy_cases (d : Bool) (N : List ByteArray) : rdy d N = 0 ∨ rdy d N = 7 ∨ rdy d N = 70 := by
  unfold rdy
  split
  · exact .inr (.inl rfl)
  · split
    · exact .inl rfl
    · exact .inr (.inr rfl)
theorem one_name (w : World) (nm : ByteArray) (h : nm.size ≤ maxLen) : NmAt (w.alloc (.cells #[.string nm] 9)) w.heap.size [nm] := fun i s hs => by
  have : i = 0 := by
    rcases Nat.lt_or_ge i 1 with h' | h'
    · omega
    · rw [List.getElem?_eq_none (by simpa using h')] at hs
      cases hs
  subst this
  simp at hs
  subst hs
  exact ⟨by rw [cell_of_row _ _ _ _ _ _ (heap_alloc_last w _)]; rfl, h⟩
section
set_option maxRecDepth 10000
set_option maxHeartbeats 1000000
theorem find_nil (nm : ByteArray) (w : World) : Calls Try.prog 40 #[.pointer none, .string nm] w fun e w' => e = .returned (.tuple #[.slice none 0 0, .int .i64 7]) ∧ Below w.heap.size w w' := by
  have HD := hide fun v W => ready_nil v W
  have hB : Hid (Below w.heap.size w (w.alloc (.cells #[.string nm] 9))) := (Below.refl _ _).alloc (Nat.le_refl _) _
  go_enter Try.func40, Try.ntmps40
  go_wp2_with (go_at_call 35; refine (HD.out _ _).mono ?_; rintro e w1 ⟨rfl, hw⟩; subst w1)
  go_ret2
  exact ⟨rfl, hB.out⟩
theorem find_any (gd : Nat) (x : St) (T : Nat → Prop) (nm : ByteArray) (w : World) (h : DK w gd x T) (hm : nm.size ≤ maxLen) : Calls Try.prog 40 #[.pointer (some ⟨gd, 0, none⟩), .string nm] w fun e w' => (∃ v, e = .returned (.tuple #[v, .int .i64 (fnd x nm)]) ∧ Own w' v (if fnd x nm = 0 then x.now.at (ls nm) else [])) ∧ Below w.heap.size w w' := by
  obtain ⟨S1, S2, mn, ms, vo, vp, h⟩ := h
  have hB : Below w.heap.size w (w.alloc (.cells #[.string nm] 9)) := (Below.refl _ _).alloc (Nat.le_refl _) _
  have h1 := h.below hB
  have c5 := h1.cell 5 (by decide)
  have c0 := h1.cell 0 (by decide)
  rw [show dc mn ms vo vp x.made x.dead 5 = .bool x.dead from rfl] at c5
  rw [show dc mn ms vo vp x.made x.dead 0 = .map mn from rfl] at c0
  have HR := hide (ready_any gd x.dead w.heap.size 1 [nm] _ c5 (one_name w nm hm) (by simp))
  rw [show [nm].length = 1 from rfl] at HR
  obtain ⟨v, hl1, hl2, ov⟩ := h1.now.look hm
  obtain ⟨ao, n, c, rfl, _⟩ := ov.form
  have HB := hide hB
  have OV := hide ov
  unfold fnd
  clear h h1 hm hB ov hl1 c5
  rcases rdy_cases x.dead [nm] with hr | hr | hr
  · rw [hr, if_pos rfl]
    rw [hr] at HR
    cases hg : (x.now.get (ls nm)).isSome
    · rw [hg] at hl2
      rw [if_neg (by decide), if_neg (by decide)]
      clear hg hr
      go_enter Try.func40, Try.ntmps40
      go_wp2_with (go_at_call 35; refine HR.out.mono ?_; rintro e w1 ⟨rfl, hw⟩; subst w1)
      go_ret2
      exact ⟨⟨_, rfl, Own.nil _⟩, HB.out⟩
    · rw [hg] at hl2
      rw [if_pos rfl, if_pos rfl]
      clear hg hr
      go_enter Try.func40, Try.ntmps40
      go_wp2_with (go_at_call 35; refine HR.out.mono ?_; rintro e w1 ⟨rfl, hw⟩; subst w1)
      go_ret2
      exact ⟨⟨_, rfl, OV.out⟩, HB.out⟩
  all_goals
    rw [hr, if_neg (by decide), if_neg (by decide)]
    rw [hr] at HR
    clear hr
    go_enter Try.func40, Try.ntmps40
    go_wp2_with (go_at_call 35; refine HR.out.mono ?_; rintro e w1 ⟨rfl, hw⟩; subst w1)
    go_ret2
    exact ⟨⟨_, rfl, Own.nil _⟩, HB.out⟩
theorem read_nil (nm : ByteArray) (w : World) : Calls Try.prog 13 #[.pointer none, .string nm] w fun e w' => e = .returned (.tuple #[.string ⟨#[]⟩, .int .i64 7]) ∧ Below w.heap.size w w' := by
  have HD := hide (find_nil nm w)
  have hc := fun W => conv_own (Own.nil W)
  go_enter Try.func13, Try.ntmps13
  go_wp2_with (go_at_call 40; refine HD.out.mono ?_; rintro e w1 ⟨rfl, hb⟩; have HB := hide hb; clear hb)
  go_ret2
  exact ⟨rfl, HB.out⟩
theorem read_any (gd : Nat) (x : St) (T : Nat → Prop) (nm : ByteArray) (w : World) (h : DK w gd x T) (hm : nm.size ≤ maxLen) : Calls Try.prog 13 #[.pointer (some ⟨gd, 0, none⟩), .string nm] w fun e w' => e = .returned (.tuple #[.string ⟨(if fnd x nm = 0 then x.now.at (ls nm) else []).toArray⟩, .int .i64 (fnd x nm)]) ∧ Below w.heap.size w w' := by
  have HD := hide (find_any gd x T nm w h hm)
  generalize (if fnd x nm = 0 then x.now.at (ls nm) else []) = L at *
  generalize fnd x nm = E at *
  clear h
  go_enter Try.func13, Try.ntmps13
  go_wp2_with (go_at_call 40; refine HD.out.mono ?_; rintro e w1 ⟨⟨v, rfl, o⟩, hb⟩; have HB := hide hb; have hc := conv_own o; clear hb o)
  go_ret2
  exact ⟨rfl, HB.out⟩
theorem size_nil (nm : ByteArray) (w : World) : Calls Try.prog 31 #[.pointer none, .string nm] w fun e w' => e = .returned (.tuple #[.int .i64 0, .int .i64 7]) ∧ Below w.heap.size w w' := by
  have HD := hide (find_nil nm w)
  go_enter Try.func31, Try.ntmps31
  go_wp2_with (go_at_call 40; refine HD.out.mono ?_; rintro e w1 ⟨rfl, hb⟩; have HB := hide hb; clear hb)
  go_ret2
  exact ⟨rfl, HB.out⟩
theorem size_any (gd : Nat) (x : St) (T : Nat → Prop) (nm : ByteArray) (w : World) (h : DK w gd x T) (hm : nm.size ≤ maxLen) : Calls Try.prog 31 #[.pointer (some ⟨gd, 0, none⟩), .string nm] w fun e w' => e = .returned (.tuple #[.int .i64 ((if fnd x nm = 0 then x.now.at (ls nm) else []).length : Int), .int .i64 (fnd x nm)]) ∧ Below w.heap.size w w' := by
  have HD := hide (find_any gd x T nm w h hm)
  generalize (if fnd x nm = 0 then x.now.at (ls nm) else []) = L at *
  generalize fnd x nm = E at *
  clear h
  go_enter Try.func31, Try.ntmps31
  go_wp2_with (go_at_call 40; refine HD.out.mono ?_; rintro e w1 ⟨⟨v, rfl, o⟩, hb⟩; obtain ⟨ao, n, c, rfl, hn⟩ := o.form; have HB := hide hb; clear hb o)
  go_ret2
  exact ⟨by rw [← hn.out]; rfl, HB.out⟩
theorem up_nil (w : World) : Calls Try.prog 12 #[.pointer none] w fun e w' => e = .returned (.bool false) ∧ w' = w := by
  go_enter Try.func12, Try.ntmps12
  go_wp2
  go_ret
  exact ⟨rfl, rfl⟩
theorem DP.setDead {w : World} {gd : Nat} {x : St} {T S1 S2 : Nat → Prop} {mn ms : Option Nat} {vo vp : Value} (h : DP w gd x T S1 S2 mn ms vo vp) (d : Bool) : DP (w.setCell ⟨gd, 5, none⟩ (.bool d)) gd { x with dead := d } T S1 S2 mn ms vo vp := by
  have hb : ∀ g, g ≠ gd → (w.setCell ⟨gd, 5, none⟩ (.bool d)).heap[g]? = w.heap[g]? := fun g hg => Below.heap_setCell _ _ _ _ hg
  have hs : (w.setCell ⟨gd, 5, none⟩ (.bool d)).heap.size = w.heap.size := by simp [World.setCell]
  refine ⟨(World.rowIs.set h.row 5 (.bool d)).congr fun i hi => ?_, h.now.frame (by omega) fun g hg => hb g fun e => h.d1 (e ▸ hg), h.sure.frame (by omega) fun g hg => hb g fun e => h.d2 (e ▸ hg), rowsOf h.loose fun g hg => hb g (h.l1 g hg).2.2, rowsOf h.plan fun g hg => hb g (h.p1 g hg).2.2, h.tg, h.t1, h.t2, h.tl, h.tp, h.apart, h.d1, h.d2, h.l1, h.p1, fun g hg => by rw [hs]; exact h.lt g hg⟩
  have : i = 0 ∨ i = 1 ∨ i = 2 ∨ i = 3 ∨ i = 4 ∨ i = 5 := by omega
  rcases this with rfl | rfl | rfl | rfl | rfl | rfl <;> rfl
theorem up_any (gd : Nat) (x : St) (T : Nat → Prop) (w : World) (h : DK w gd x T) : Calls Try.prog 12 #[.pointer (some ⟨gd, 0, none⟩)] w fun e w' => e = .returned (.bool x.dead) ∧ DK w' gd { x with dead := false } T ∧ Fr T w w' ∧ w'.heap.size = w.heap.size := by
  obtain ⟨S1, S2, mn, ms, vo, vp, h⟩ := h
  have c5 := h.cell 5 (by decide)
  rw [show dc mn ms vo vp x.made x.dead 5 = .bool x.dead from rfl] at c5
  have f5 := World.rowIs.frozen h.row 5
  have H := hide h
  clear h
  cases hd : x.dead
  · rw [hd] at c5
    have e : Hid ({ x with dead := false } = x) := by
      show _ = _
      cases x
      simp only at hd
      rw [hd]
    clear hd
    go_enter Try.func12, Try.ntmps12
    go_wp2
    go_ret
    exact ⟨rfl, by rw [e.out]; exact ⟨S1, S2, mn, ms, vo, vp, H.out⟩, Fr.refl _ _, rfl⟩
  · rw [hd] at c5
    clear hd
    go_enter Try.func12, Try.ntmps12
    go_wp2
    go_ret
    exact ⟨rfl, ⟨S1, S2, mn, ms, vo, vp, H.out.setDead false⟩, Fr.setCell _ H.out.tg _, by simp [World.setCell]⟩
end
end Go.Proofs.Ythnfpdmhjennlaa
namespace Go.Proofs.Ythnfpdmhjennlaa
open Go.RowKit
open Go.Deep
open Go.Lib
section
set_option maxRecDepth 10000
set_option maxHeartbeats 1000000
theorem index_none (ao : Option Addr) (cap : Nat) (fv : Value) (w : World) : Calls Try.prog 52 #[.slice ao 0 cap, fv] w fun e w' => e = .returned (.int .i64 (-1)) ∧ w' = w := by
  go_enter Try.func52, Try.ntmps52
  go_wp2
  go_loop [8] (fun i => i = .int .i64 0) (fun _ => 0)
  case atStart => rfl
  case round =>
    subst hrel
    go_wp2
    go_ret
    exact ⟨rfl, rfl⟩
theorem strikes_none (gd : Nat) (x : St) (T : Nat → Prop) (b : Bool) (w : World) (h : DK w gd x T) (hp : x.plan = []) : Calls Try.prog 37 #[.pointer (some ⟨gd, 0, none⟩), .bool b] w fun e w' => e = .returned (.bool false) ∧ Below w.heap.size w w' := by
  obtain ⟨S1, S2, mn, ms, vo, vp, h⟩ := h
  have hpl := h.plan
  rw [hp] at hpl
  have hv : ∃ ao cap, vp = .slice ao 0 cap := by
    rcases hpl.2 with ⟨rfl, _⟩ | ⟨g, cap, cur, rfl, _⟩
    · exact ⟨_, _, rfl⟩
    · exact ⟨_, _, rfl⟩
  obtain ⟨ao, cap, rfl⟩ := hv
  have hB : Below w.heap.size w ((w.alloc (.cells #[.pointer (some ⟨gd, 0, none⟩)] 23)).alloc (.cells #[.bool b] 4)) := ((Below.refl _ _).alloc (Nat.le_refl _) _).alloc (by simp) _
  have c4 := (h.below hB).cell 4 (by decide)
  rw [show dc mn ms vo (.slice ao 0 cap) x.made x.dead 4 = .slice ao 0 cap from rfl] at c4
  have HB := hide hB
  have HI := hide fun fv W => index_none ao cap fv W
  clear h hB hpl hp
  go_enter Try.func37, Try.ntmps37
  go_wp2_with (go_at_call 52; refine (HI.out _ _).mono ?_; rintro e w1 ⟨rfl, hw⟩; subst w1)
  go_ret
  exact ⟨rfl, HB.out⟩
/-- What of a change stays when the power fails at it. -/
def tornC (c : Ch) (n : Int) : Ch := ⟨c.kind, c.name, c.dst, c.pos, c.s.extract 0 (min n.toNat c.s.size)⟩
def tornB (c : Ch) (n : Int) : Bool := decide (c.kind = 0) && decide (1 ≤ n)
theorem torn_no (c : Ch) (n : Int) (w : World) (h : tornB c n = false) : Calls Try.prog 55 #[.agg (chv c), .int .i64 n] w fun e w' => e = .returned (.tuple #[.agg zch, .bool false]) ∧ Below w.heap.size w w' := by
  unfold tornB at h
  unfold chv zch
  have h0 := ACh.alloc
  have hb0 := ACh.build
  unfold zch at h0 hb0
  by_cases hk : (c.kind : Int) = 0
  · have hn : ¬ 1 ≤ n := fun e => by
      have : c.kind = 0 := by omega
      simp [this, e] at h
    have hn1 : n < 1 := by omega
    clear h hn
    go_enter Try.func55, Try.ntmps55
    go_wp2
    refine bodyPost_ret (v := .tuple #[.agg #[.int .i64 0, .string ⟨#[]⟩, .string ⟨#[]⟩, .int .i64 0, .string ⟨#[]⟩], .bool false]) ?_ rfl ⟨rfl, ((Below.refl _ _).alloc (Nat.le_refl _) _).alloc (by simp) _⟩
    unfold results
    rw [Try.results55]
    go_simp
  · have hk1 : ((c.kind : Int) == 0) = false := by simpa using hk
    clear h
    go_enter Try.func55, Try.ntmps55
    go_wp2
    refine bodyPost_ret (v := .tuple #[.agg #[.int .i64 0, .string ⟨#[]⟩, .string ⟨#[]⟩, .int .i64 0, .string ⟨#[]⟩], .bool false]) ?_ rfl ⟨rfl, ((Below.refl _ _).alloc (Nat.le_refl _) _).alloc (by simp) _⟩
    unfold results
    rw [Try.results55]
    go_simp
theorem torn_yes (c : Ch) (n : Int) (w : World) (h : tornB c n = true) : Calls Try.prog 55 #[.agg (chv c), .int .i64 n] w fun e w' => e = .returned (.tuple #[.agg (chv (tornC c n)), .bool true]) ∧ Below w.heap.size w w' := by
  unfold tornB at h
  simp only [Bool.and_eq_true, decide_eq_true_eq] at h
  obtain ⟨hk, hn⟩ := h
  have hk0 : (c.kind : Int) = 0 := by omega
  have hn1 : ¬ n < 1 := by omega
  unfold tornC chv
  have h0 := ACh.alloc
  unfold zch at h0
  by_cases hl : n ≤ (c.s.size : Int)
  · rw [show min n.toNat c.s.size = n.toNat by omega]
    have i0 : (0 : Int) ≤ n := by omega
    go_enter Try.func55, Try.ntmps55
    go_wp2
    refine bodyPost_ret (v := .tuple #[.agg #[.int .i64 0, .string c.name, .string c.dst, .int .i64 (c.pos : Int), .string (c.s.extract 0 n.toNat)], .bool true]) ?_ rfl ⟨rfl, ((Below.refl _ _).alloc (Nat.le_refl _) _).alloc (by simp) _⟩
    unfold results
    rw [Try.results55]
    go_simp
  · have hx : c.s.extract 0 (min n.toNat c.s.size) = c.s := by
      rw [show min n.toNat c.s.size = c.s.size by omega]
      exact ByteArray.extract_zero_size
    rw [hx]
    have hl1 : (c.s.size : Int) < n := by omega
    go_enter Try.func55, Try.ntmps55
    go_wp2
    refine bodyPost_ret (v := .tuple #[.agg #[.int .i64 0, .string c.name, .string c.dst, .int .i64 (c.pos : Int), .string c.s], .bool true]) ?_ rfl ⟨rfl, ((Below.refl _ _).alloc (Nat.le_refl _) _).alloc (by simp) _⟩
    unfold results
    rw [Try.results55]
    go_simp
end
end Go.Proofs.Ythnfpdmhjennlaa
namespace Go.Proofs.Ythnfpdmhjennlaa
open Go.RowKit
open Go.Deep
open Go.Lib
set_option linter.unusedVariables false
/-- Does a fall strike at that change, or at that sync? -/
def hereB (made : Nat) (b : Bool) (f : Fl) : Bool := decide (f.pos = (made : Int)) && (f.sync == b)
section
set_option maxRecDepth 10000
set_option maxHeartbeats 1000000
theorem strike1_any (f : Fl) (g2 g3 gd made : Nat) (b : Bool) (w : World) (h2 : w.cell? ⟨g2, 0, none⟩ = some (.pointer (some ⟨gd, 0, none⟩))) (h3 : w.cell? ⟨g3, 0, none⟩ = some (.bool b)) (h5 : w.cell? ⟨gd, 3, none⟩ = some (.int .i64 (made : Int))) (l2 : g2 < w.heap.size) (l3 : g3 < w.heap.size) (l5 : gd < w.heap.size) : Calls Try.prog 51 #[.agg (flv f).toArray, .pointer (some ⟨g2, 0, none⟩), .pointer (some ⟨g3, 0, none⟩)] w fun e w' => e = .returned (.bool (hereB made b f)) ∧ Below w.heap.size w w' := by
  obtain ⟨fp, fk, ft, fs⟩ := f
  have hB : Below w.heap.size w (w.alloc (.cells #[.int .i64 fp, .int .i64 fk, .int .i64 ft, .bool fs] 92)) := (Below.refl _ _).alloc (Nat.le_refl _) _
  have r := heap_alloc_last w (.cells #[.int .i64 fp, .int .i64 fk, .int .i64 ft, .bool fs] 92)
  have k2 := (hB.cell (p := ⟨g2, 0, none⟩) l2).trans h2
  have k3 := (hB.cell (p := ⟨g3, 0, none⟩) l3).trans h3
  have k5 := (hB.cell (p := ⟨gd, 3, none⟩) l5).trans h5
  have c0 : (w.alloc (.cells #[.int .i64 fp, .int .i64 fk, .int .i64 ft, .bool fs] 92)).cell? ⟨w.heap.size, 0, none⟩ = some (.int .i64 fp) := by rw [cell_of_row _ _ 0 _ _ _ r]; rfl
  have c3 : (w.alloc (.cells #[.int .i64 fp, .int .i64 fk, .int .i64 ft, .bool fs] 92)).cell? ⟨w.heap.size, 3, none⟩ = some (.bool fs) := by rw [cell_of_row _ _ 3 _ _ _ r]; rfl
  have HB := hide hB
  unfold hereB flv
  clear h2 h3 h5 hB r
  go_enter Try.func51, Try.ntmps51
  go_upto_region 1 with fail
  generalize w.alloc (.cells #[.int .i64 fp, .int .i64 fk, .int .i64 ft, .bool fs] 92) = W0 at *
  by_cases hp : fp = (made : Int)
  · subst hp
    go_region
    go_wp2
    go_ret
    exact ⟨by simp, HB.out.drew⟩
  · have hq : decide (fp = (made : Int)) = false := decide_eq_false hp
    have hq2 : (fp == (made : Int)) = false := by simpa using hp
    go_region
    go_wp2
    go_ret
    exact ⟨by simp [hp], HB.out.drew⟩
end
end Go.Proofs.Ythnfpdmhjennlaa
namespace Go.Proofs.Ythnfpdmhjennlaa
open Go.RowKit
open Go.Deep
/-- A kind of elements: the type of a slice of such, their type, how many cells and bytes each has, and its cells. -/
structure Ek (α : Type) where
  t : TypeId
  e : TypeId
  k : Nat
  b : Nat
  enc : α → List Value
  kpos : 0 < k
  k24 : k ≤ 16777216
  sl : Try.prog.underlying t = some (.slice e)
  inf : (Try.prog.info? e).map (fun i => (i.zero.map (·.cells.size), i.size, i.bytes)) = some (some k, k, b)
  len : ∀ x, (enc x).length = k
  one : ∀ x, ∀ v ∈ enc x, v.oneCell' = true
section
variable {α : Type} (E : Ek α)
def flatE (L : List α) : List Value := (L.map E.enc).flatten
theorem flatE_nil : flatE E [] = [] := rfl
theorem flatE_cons (a : α) (L : List α) : flatE E (a :: L) = E.enc a ++ flatE E L := by simp [flatE]
theorem flatE_len (L : List α) : (flatE E L).length = L.length * E.k := by
  induction L with
  | nil => simp [flatE_nil]
  | cons a r ih => rw [flatE_cons, List.length_append, E.len, ih, List.length_cons, Nat.add_mul]; omega
theorem flatE_app (A B : List α) : flatE E (A ++ B) = flatE E A ++ flatE E B := by simp [flatE]
theorem flatE_one (a : α) : flatE E [a] = E.enc a := by simp [flatE]
theorem flatE_at (L : List α) : ∀ (i : Nat) (h : i < L.length), ∀ j, j < E.k → (flatE E L)[i * E.k + j]? = (E.enc L[i])[j]? := by
  induction L with
  | nil => intro i hi; simp at hi
  | cons a r ih =>
    intro i hi j hj
    have ha := E.len a
    rcases i with _ | i
    · rw [flatE_cons, List.getElem?_append_left (by omega)]
      simp
    · rw [flatE_cons, List.getElem?_append_right (by rw [Nat.add_mul]; omega), ha, show (i + 1) * E.k + j - E.k = i * E.k + j by rw [Nat.add_mul]; omega, ih i (by simpa using hi) j hj]
      rfl
theorem flatE_cell (L : List α) : ∀ v ∈ flatE E L, v.oneCell' = true := by
  intro v hv
  simp only [flatE, List.mem_flatten, List.mem_map] at hv
  obtain ⟨_, ⟨x, _, rfl⟩, hv⟩ := hv
  exact E.one x v hv
theorem Ek.parts : ∃ i z, Try.prog.info? E.e = some i ∧ i.zero = some z ∧ z.cells.size = E.k ∧ i.size = E.k ∧ i.bytes = E.b := by
  have h := E.inf
  cases hi : Try.prog.info? E.e with
  | none => rw [hi] at h; cases h
  | some i =>
    rw [hi] at h
    simp only [Option.map_some, Option.some.injEq, Prod.mk.injEq] at h
    obtain ⟨h1, h2, h3⟩ := h
    cases hz : i.zero with
    | none => rw [hz] at h1; cases h1
    | some z =>
      rw [hz] at h1
      exact ⟨i, z, rfl, hz, by simpa using h1, h2, h3⟩
/-- A slice that holds elements. -/
def LX (w : World) (v : Value) (L : List α) : Prop := ∃ ao cap, v = .slice ao L.length cap ∧ L.length ≤ cap ∧ ∀ (i : Nat) (h : i < L.length), ∃ g off, ao = some ⟨g, off, none⟩ ∧ g < w.heap.size ∧ w.rangeAt g (off + i * E.k) (E.enc L[i])
/-- A slice of the program's own making that holds elements. -/
def OX (w : World) (v : Value) (L : List α) : Prop := w.ownsRow 0 E.e E.k v L.length (flatE E L)
end
theorem rangeX_below {w W : World} {B g off : Nat} {cs : List Value} (hr : w.rangeAt g off cs) (hb : Below B w W) (hg : g < B) : W.rangeAt g off cs := fun j v hv => by
  have := hr j v hv
  rw [← this]
  exact hb.cell (p := ⟨g, off + j, none⟩) hg
section
variable {α : Type} {E : Ek α} {w W : World} {v : Value} {L : List α}
theorem LX.below (h : LX E w v L) (hb : Below w.heap.size w W) : LX E W v L := by
  obtain ⟨ao, cap, rfl, h2, h3⟩ := h
  refine ⟨ao, cap, rfl, h2, fun i hi => ?_⟩
  obtain ⟨g, off, e, hg, hr⟩ := h3 i hi
  exact ⟨g, off, e, Nat.lt_of_lt_of_le hg hb.size, rangeX_below hr hb hg⟩
theorem LX.form (h : LX E w v L) : ∃ ao cap, v = .slice ao L.length cap := by
  obtain ⟨ao, cap, e, _⟩ := h
  exact ⟨ao, cap, e⟩
theorem LX.base {ao : Option Addr} {n cap : Nat} (h : LX E w (.slice ao n cap) L) (h0 : 0 < L.length) : ∃ g off, ao = some ⟨g, off, none⟩ := by
  obtain ⟨_, _, e, _, h3⟩ := h
  injection e with e1
  obtain ⟨g, off, e2, _⟩ := h3 0 h0
  exact ⟨g, off, e1.trans e2⟩
theorem LX.range {g off n cap : Nat} (h : LX E w (.slice (some ⟨g, off, none⟩) n cap) L) (i : Nat) (hi : i < L.length) : w.rangeAt g (off + i * E.k) (E.enc L[i]) := by
  obtain ⟨_, _, e, _, h3⟩ := h
  injection e with e1
  subst e1
  obtain ⟨g', off', e2, _, hc⟩ := h3 i hi
  cases e2
  exact hc
theorem LX.lt {g off n cap : Nat} (h : LX E w (.slice (some ⟨g, off, none⟩) n cap) L) (h0 : 0 < L.length) : g < w.heap.size := by
  obtain ⟨_, _, e, _, h3⟩ := h
  injection e with e1
  subst e1
  obtain ⟨g', off', e2, hg, _⟩ := h3 0 h0
  cases e2
  exact hg
theorem LX.nil (w : World) : LX E w (.slice none 0 0) [] := ⟨none, 0, rfl, Nat.le_refl _, fun i hi => by simp at hi⟩
theorem OX.nil (w : World) : OX E w (.slice none 0 0) [] := World.ownsRow_nil _ _ _ _
theorem OX.form (h : OX E w v L) : ∃ ao c, v = .slice ao L.length c := by
  rcases h.2 with ⟨rfl, h0⟩ | ⟨g, cap, cur, rfl, _⟩
  · exact ⟨none, 0, by rw [h0]⟩
  · exact ⟨_, _, rfl⟩
theorem OX.of_block (h : OX E w v L) (hb : ∀ g, v.ownBlock = some g → W.heap[g]? = w.heap[g]?) : OX E W v L := by
  obtain ⟨h2, h3⟩ := h
  refine ⟨h2, ?_⟩
  rcases h3 with ⟨rfl, h0⟩ | ⟨g, cap, cur, rfl, h4, hg, h5⟩
  · exact .inl ⟨rfl, h0⟩
  · exact .inr ⟨g, cap, cur, rfl, h4, (hb g rfl).trans hg, h5⟩
theorem OX.lt (h : OX E w v L) : ∀ g, v.ownBlock = some g → g < w.heap.size := by
  intro g hg
  rcases h.2 with ⟨rfl, h0⟩ | ⟨g', cap, cur, rfl, h4, hb, h5⟩
  · cases hg
  · cases hg
    exact lt_heap hb
theorem OX.below (h : OX E w v L) (hb : Below w.heap.size w W) : OX E W v L := h.of_block fun g hg => hb.block _ (h.lt g hg)
theorem OX.read (h : OX E w v L) : LX E w v L := by
  obtain ⟨h2, h3⟩ := h
  rcases h3 with ⟨rfl, h0⟩ | ⟨g, cap, cur, rfl, hb, hg, hn, hm, hsz, ht⟩
  · exact ⟨none, 0, by rw [h0], by omega, fun i hi => by omega⟩
  · refine ⟨_, cap, rfl, hn, fun i hi => ⟨g, 0, rfl, lt_heap hg, fun j u hu => ?_⟩⟩
    have hj : j < E.k := by
      have := (List.getElem?_eq_some_iff.1 hu).1
      rw [E.len] at this
      exact this
    rw [cell_of_row w g _ cur E.e (0, 0) hg, ← Array.getElem?_toList]
    have e2 := flatE_at E L i hi j hj
    rw [hu, ← ht, List.getElem?_take] at e2
    have hlt : i * E.k + E.k ≤ L.length * E.k := by
      have := Nat.mul_le_mul_right E.k (show i + 1 ≤ L.length by omega)
      rw [Nat.add_mul] at this
      omega
    rw [if_pos (by omega)] at e2
    rw [show 0 + i * E.k + j = i * E.k + j by omega]
    exact e2
/-- The load of an element out of memory. -/
theorem Ek.load {W : World} {g off : Nat} (x : α) {kd : TypeDesc} (hu : Try.prog.underlying E.e = some kd) (hk : kd.isRow = true) (hr : W.rangeAt g off (E.enc x)) : (Instr.loadAt E.e (.pointer (some ⟨g, off, none⟩))).run Try.prog W = .ok (.agg (E.enc x).toArray) W := by
  obtain ⟨i, z, hi, _, _, hs, _⟩ := E.parts
  exact run_loadAt_mid W g off E.e _ _ hr hu hk (by rw [hi, E.len]; simp [hs])
/-- An append of elements. -/
theorem Ek.app {ty : TypeId} (hown : OX E w v L) (ad : Addr) (m c : Nat) (N : List α) (hm : m = N.length) (hnews : ∀ j u, (flatE E N)[j]? = some u → w.cell? (ad.add j) = some u)
    (hsm : (L.length + m) * E.b ≤ 140737488355328) (h63 : L.length + m ≤ maxLen) :
    ∃ v' w', (Builtin.append_ #[E.t, E.t] ty #[v, .slice (some ad) m c]).run Try.prog w = .ok v' w' ∧ OX E w' v' (L ++ N) ∧ Onto w w' v v' := by
  obtain ⟨i0, z, hi, hz0, hzs, hz1, hz2⟩ := E.parts
  obtain ⟨v', w', hr, h2, h3, _, h5⟩ := run_append_own_at (P := Try.prog) w 0 E.t ty E.e i0 z E.k E.b E.sl hi hz0 hz1 hz2 hzs E.kpos v L.length (flatE E L) hown ad m c (flatE E N) (by rw [flatE_len, hm]) hnews
    (flatE_cell E N) h63 hsm (Nat.zero_le _)
  refine ⟨v', w', hr, ?_, ⟨h3, ?_⟩⟩
  · unfold OX
    rw [List.length_append, flatE_app, ← hm]
    exact h2
  · rcases h5 with h5 | h5
    · exact .inl h5
    · exact .inr ⟨_, h5, Nat.le_refl _⟩
/-- A slice of one element. -/
theorem Ek.bs1 (w : World) (x : α) : (Instr.buildSlice E.t 1 #[(0, .agg (E.enc x).toArray)]).run Try.prog w = .ok (.slice (some ⟨w.heap.size, 0, none⟩) 1 1) (w.alloc (.cells (E.enc x).toArray E.e)) := by
  obtain ⟨i, z, hi, hz, hzs, hs, _⟩ := E.parts
  have hk := E.kpos
  have hcs : (Value.agg (E.enc x).toArray).cells.size = E.k := by
    show (E.enc x).toArray.size = E.k
    rw [List.size_toArray, E.len]
  obtain ⟨r, hr, hrs, hk⟩ := Great.fill_dense (s := E.k) E.kpos [Value.agg (E.enc x).toArray] 0 ((Array.range (1 * E.k)).map (z.cells[· % z.cells.size]!)) (fun v hv => by simp at hv; rw [hv]; exact hcs) (by simp)
  have e1 : r = (E.enc x).toArray := by
    apply Array.ext
    · rw [hrs, show (E.enc x).toArray.size = E.k by rw [List.size_toArray, E.len]]; simp
    · intro k h1 h2
      have hk1 : k < E.k := by rw [List.size_toArray, E.len] at h2; exact h2
      have := hk k
      rw [if_pos ⟨by omega, by simp; omega⟩, Array.getElem?_eq_getElem h1, show k / E.k - 0 = 0 by rw [Nat.div_eq_of_lt hk1], Nat.mod_eq_of_lt hk1] at this
      simp only [List.getElem?_cons_zero, Option.bind_some] at this
      rw [show (Value.agg (E.enc x).toArray).cells = (E.enc x).toArray from rfl, Array.getElem?_eq_getElem h2] at this
      exact Option.some.inj this
  rw [e1] at hr
  refine run_buildSlice (P := Try.prog) w E.t E.e 1 #[(0, .agg (E.enc x).toArray)] (E.enc x).toArray i z E.sl hi hz (by rw [hs]; have := E.k24; omega) (by rw [hs]; omega) ?_
  rw [hs]
  exact hr
theorem one_newX (w : World) (x : α) : ∀ j u, (flatE E [x])[j]? = some u → (w.alloc (.cells (E.enc x).toArray E.e)).cell? ((⟨w.heap.size, 0, none⟩ : Addr).add j) = some u := by
  intro j u hu
  rw [flatE_one] at hu
  have hadd : (⟨w.heap.size, 0, none⟩ : Addr).add j = ⟨w.heap.size, 0 + j, none⟩ := by unfold Addr.add; split <;> simp_all
  rw [hadd, cell_of_row _ _ _ _ _ _ (heap_alloc_last w _), Nat.zero_add]
  simpa using hu
end
end Go.Proofs.Ythnfpdmhjennlaa
