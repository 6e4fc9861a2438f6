/- Disks: Sure. The document's files: find, without. The document's files: without. -/
import Derived.Test.YthnfpdmhjennlaaV18
namespace Go.Proofs.Ythnfpdmhjennlaa
open Go.RowKit
open Go.Deep
open Go.Lib
open Go.Maps
open Go.MapKept Go.ChangeMaps Go.WideElems
set_option linter.unusedVariables false
theorem make_tx (n : Int) (w : World) : (Instr.makeMap 66 (some (.int .i64 n))).run Try.prog w = .ok (.map (some w.heap.size)) (w.alloc (.map #[] 0)) := by
  unfold Instr.makeMap
  simp [run_underlying Try.underlying66, asInt, newObj]
  rfl
section
set_option maxRecDepth 10000
set_option maxHeartbeats 4000000
theorem sure_nil (gd : Nat) (w : World) (hc : w.cell? ⟨gd, 1, none⟩ = some (.map none)) (hg : gd < w.heap.size) : Calls Try.prog 30 #[.pointer (some ⟨gd, 0, none⟩)] w fun e w' => ∃ b2, e = .returned (.map (some b2)) ∧ Mt w' b2 FS.none.get 0 ∧ Below w.heap.size w w' ∧ w.heap.size ≤ b2 := by
  have hmk := make_tx 0
  have hrg := range_none
  have b0 : Below w.heap.size w (w.alloc (.map #[] 0)) := (Below.refl _ _).alloc (Nat.le_refl _) _
  have b1 : Below w.heap.size w ((w.alloc (.map #[] 0)).alloc (.mapIter none 0 #[] 0)) := ((Below.refl _ _).alloc (Nat.le_refl _) _).alloc (by simp) _
  have r1 := heap_alloc_last (w.alloc (.map #[] 0)) (.mapIter none 0 #[] 0)
  have hz1 : (w.alloc (.map #[] 0)).heap.size = w.heap.size + 1 := by simp
  rw [hz1] at r1
  have hnx := fun t => next_none _ (w.heap.size + 1) t r1
  have hc1 := (b0.cell (p := ⟨gd, 1, none⟩) hg).trans hc
  have C0 : Hid (Mt ((w.alloc (.map #[] 0)).alloc (.mapIter none 0 #[] 0)) w.heap.size FS.none.get 0) := (Mt.made w).of_block (Below.heap_alloc _ _ _ (by omega))
  have B1 := hide b1
  clear b1 r1 b0
  go_enter Try.func30, Try.ntmps30
  go_wp2
  try rw [hz1]
  clear hz1 hmk hrg hc hc1
  generalize (w.alloc (.map #[] 0)).alloc (.mapIter none 0 #[] 0) = W2 at *
  go_loopw [19] (fun _ wr => wr = W2) (fun _ _ => 0)
  case atStart => exact rfl
  case round =>
    subst hrel
    go_wp2
    go_ret
    exact ⟨_, rfl, C0.out, B1.out, Nat.le_refl _⟩
end
theorem Mt.names {w : World} {b n : Nat} {F : List UInt8 → Option (List UInt8)} (h : Mt w b F n) : ∃ ks : List Lit, ks.Nodup ∧ ks.length = n ∧ ∀ x, x ∈ ks ↔ ∃ k, x = .string k ∧ (F k).isSome = true := by
  obtain ⟨D, ho, hh, _, hs⟩ := h.ex
  obtain ⟨es, hD, hp, _⟩ := ho.entries lawS
  obtain ⟨es0, clock, _, Ft, _, hD0⟩ := ho
  have hk : ∀ p ∈ es, ∃ k, p.1 = .string k := fun p hp => by
    rw [hD] at hD0
    injection hD0 with hD0
    rw [hD0] at hp
    obtain ⟨v, hv⟩ := Maps.fit_keys Ft p (mem_sorted.1 hp)
    obtain ⟨s, _, hs, _⟩ := keyS_inv hv
    exact ⟨_, hs⟩
  refine ⟨es.map (·.1), ?_, ?_, fun x => ?_⟩
  · rw [List.nodup_iff_pairwise_ne, List.pairwise_map]
    exact hp
  · rw [List.length_map, ← hs, hD]
    rfl
  · rw [List.mem_map]
    constructor
    · rintro ⟨p, hpe, rfl⟩
      obtain ⟨k, hk'⟩ := hk p hpe
      refine ⟨k, hk', ?_⟩
      rw [← hh, hD, Maps.has_eq, List.any_eq_true]
      exact ⟨p, hpe, by rw [hk']; exact WideAt.sameKey_self trivial⟩
    · rintro ⟨k, rfl, hF⟩
      rw [← hh, hD, Maps.has_eq, List.any_eq_true] at hF
      obtain ⟨p, hpe, hsk⟩ := hF
      exact ⟨p, hpe, WideAt.sameKey_eq hsk⟩
theorem Mt.le_mp {w w' : World} {b b' n n' : Nat} {G : List UInt8 → Option (List UInt8)} {F' : List UInt8 → Option Value} (h : Mt w b G n) (h' : Mp w' b' F' n') (e : ∀ k, (G k).isSome = true → (F' k).isSome = true) : n ≤ n' := by
  obtain ⟨ks, n1, l1, m1⟩ := h.names
  obtain ⟨ks', n2, l2, m2⟩ := h'.names
  rw [← l1, ← l2]
  refine n1.length_le_of_subset fun x hx => ?_
  obtain ⟨k, h1, h2⟩ := (m1 x).1 hx
  exact (m2 x).2 ⟨k, h1, e k h2⟩
theorem Mp.le_mt {w w' : World} {b b' n n' : Nat} {G : List UInt8 → Option (List UInt8)} {F' : List UInt8 → Option Value} (h : Mt w b G n) (h' : Mp w' b' F' n') (e : ∀ k, (F' k).isSome = true → (G k).isSome = true) : n' ≤ n := by
  obtain ⟨ks, n1, l1, m1⟩ := h.names
  obtain ⟨ks', n2, l2, m2⟩ := h'.names
  rw [← l1, ← l2]
  refine n2.length_le_of_subset fun x hx => ?_
  obtain ⟨k, h1, h2⟩ := (m2 x).1 hx
  exact (m1 x).2 ⟨k, h1, e k h2⟩
/-- What is told so far is all that is not left. -/
structure Ct (w wr : World) (f : FS) (D : DataW Unit) (left : Lit → Bool) (G : List UInt8 → Option (List UInt8)) (m : Nat) : Prop where
  mt : Mt wr w.heap.size G m
  get : ∀ k, G k = if Maps.has D (.string k) && !left (.string k) then f.get k else none
  bel : Below w.heap.size w wr
  n : m ≤ f.n
section
set_option maxRecDepth 10000
set_option maxHeartbeats 4000000
theorem sure_some (gd b : Nat) (F : List UInt8 → Option Value) (f : FS) (S : Nat → Prop) (w : World) (hc : w.cell? ⟨gd, 1, none⟩ = some (.map (some b))) (hg : gd < w.heap.size) (h : Fs w b F f S) (hn : f.n < 1000000) : Calls Try.prog 30 #[.pointer (some ⟨gd, 0, none⟩)] w fun e w' => ∃ b2, e = .returned (.map (some b2)) ∧ Mt w' b2 f.get f.n ∧ Below w.heap.size w w' ∧ w.heap.size ≤ b2 := by
  obtain ⟨D, ho, hh, ha, hs⟩ := h.mp.ex
  have hlen := h.mp.len
  have hmk := make_tx f.n
  have hB : Below w.heap.size w (w.alloc (.map #[] 0)) := (Below.refl _ _).alloc (Nat.le_refl _) _
  have hc1 := (hB.cell (p := ⟨gd, 1, none⟩) hg).trans hc
  have ho1 := hide (ho.alloc (.map #[] 0))
  have HH := hide h
  have HD := hide (And.intro hh (And.intro ha hs))
  have HN := hide hn
  have HB := hide hB
  clear h ho hh ha hs hn hB
  go_enter Try.func30, Try.ntmps30
  go_wp2_with (first | (at_range; refine wpList_range_own _ rfl _ 39 rfl 9 77 lawS Try.underlying39 _ b f.n D rfl ho1.out ?_; intro w0 hrg0 hg0 hs0))
  go_frame
  have hz1 : (w.alloc (.map #[] 0)).heap.size = w.heap.size + 1 := by simp
  rw [hz1] at hrg0 hs0 ⊢
  have C0 : Hid (Ct w w0 f D (Maps.has D) (fun _ => none) 0) := by
    have hbl : Below w.heap.size w w0 := HB.out.trans ⟨hg0.os, hg0.tape, hg0.output, hg0.size, fun k hk => hg0.block k (by omega) (by simp)⟩
    refine ⟨(Mt.made w).of_block (hg0.block _ (by omega) (by simp)), fun k => ?_, hbl, Nat.zero_le _⟩
    cases Maps.has D (.string k) <;> rfl
  have RG0 := hide hrg0
  clear hrg0 hg0 hs0 hz1 hlen hmk ho1 HB hc hc1
  go_loopw [19] (fun _ wr => ∃ left cnt G m, Hid (wr.ranges Try.prog 9 slE b (w.heap.size + 1) f.n D left cnt) ∧ Hid (Ct w wr f D left G m)) (fun _ wr => wr.rangeLeft b (w.heap.size + 1))
  case atStart => exact ⟨_, _, _, _, RG0, C0⟩
  case round =>
    clear RG0 C0
    obtain ⟨left, cnt, G, m, RG, C2⟩ := hrel
    rcases RG.out.next lawS 0 with ⟨h0, hl0, hrun⟩ | ⟨key, v, kl, y, w1, cnt1, hkey, hlk, hv, hat, hrun, hrg1, hlt, hg1, hs1, hen⟩
    · go_wp2
      go_ret
      have hget : G = f.get := by
        funext k
        rw [C2.out.get, hl0, HD.out.1, HH.out.dom]
        cases hk : f.get k <;> simp
      have c2 := C2.out
      rw [hget] at c2
      have hn1 : f.n ≤ m := Mp.le_mt c2.mt HH.out.mp fun k hk => by rw [HH.out.dom] at hk; exact hk
      have hnm : m = f.n := Nat.le_antisymm c2.n hn1
      rw [hnm] at c2
      exact ⟨_, rfl, c2.mt, c2.bel, Nat.le_refl _⟩
    · obtain ⟨s, rfl, rfl, hsm⟩ := keyS_inv hkey
      have hhas : Maps.has D (.string s.data.toList) = true := Maps.has_true_of_atKey hat
      have hFs : (F s.data.toList).isSome = true := by rw [← HD.out.1]; exact hhas
      obtain ⟨v0, hv0⟩ := Option.isSome_iff_exists.1 hFs
      obtain ⟨y0, hy0, hat0⟩ := HD.out.2.1 _ _ hv0
      have hvv : v = v0 := by
        obtain ⟨y1, y2⟩ := y
        have e1 := hat (.agg [])
        rw [hat0] at e1
        simp only at e1
        subst e1
        exact slE_inj hv hy0
      subst hvv
      obtain ⟨l, hl⟩ := Option.isSome_iff_exists.1 (by rw [← HH.out.dom]; exact hFs : (f.get s.data.toList).isSome = true)
      have hB1 : Below w.heap.size w w1 := C2.out.bel.trans ⟨hg1.os, hg1.tape, hg1.output, hg1.size, fun k hk => hg1.block k (by have := C2.out.bel.size; omega) (by intro e; cases e; omega)⟩
      have O1 : Own w1 v l := (HH.out.own _ _ _ (fun e => e) hv0 hl).of_block fun g hg => hB1.block g (HH.out.lt g (HH.out.ins _ _ g (fun e => e) hv0 hg))
      have hcv := conv_own O1
      have hlb := C2.out.mt.lt
      have mt1 : Mt w1 w.heap.size G m := C2.out.mt.of_block (hg1.block _ hlb (by intro e; injection e with e; omega))
      obtain ⟨w3, hr3, m3, t3⟩ := mt1.put (by have := HN.out; have := C2.out.n; unfold maxLen; omega) (x := ⟨l.toArray⟩) hsm
      have g3 := t3.grown
      have hbw := HH.out.mp.lt
      have rg3 := hrg1.kept g3 (by intro e; injection e with e; omega) (by intro e; injection e with e; omega)
      have REL : Hid (∃ left cnt G m, Hid (w3.ranges Try.prog 9 slE b (w.heap.size + 1) f.n D left cnt) ∧ Hid (Ct w w3 f D left G m)) := by
        refine ⟨_, _, _, _, rg3, ⟨m3, fun k => ?_, ?_, ?_⟩⟩
        · unfold updT
          by_cases hk : k = s.data.toList
          · have hsk : (Lit.string s.data.toList).sameKey (.string s.data.toList) = true := WideAt.sameKey_self trivial
            rw [if_pos hk, hk, hhas, hsk, hl]
            simp
          · rw [if_neg hk, C2.out.get, Maps.sameKey_ne (str_ne hk)]
            simp
        · exact hB1.trans ⟨g3.os, g3.tape, g3.output, g3.size, fun k hk => g3.block k (by have := hB1.size; omega) (by intro e; cases e; omega)⟩
        · exact m3.le_mp HH.out.mp fun k hk => by
            rw [HH.out.dom]
            unfold updT at hk
            by_cases hks : k = s.data.toList
            · rw [hks, hl]
              rfl
            · rw [if_neg hks, C2.out.get] at hk
              cases hf : f.get k
              · rw [hf] at hk
                split at hk <;> cases hk
              · rfl
      have MS : Hid (w3.rangeLeft b (w.heap.size + 1) < wr.rangeLeft b (w.heap.size + 1)) := by
        show _ < _
        rw [rg3.left_eq, RG.out.left_eq]
        exact hlt
      clear hat hat0 hy0 hv hhas hFs hv0 hl hB1 O1 hlk hrg1 hlt hg1 hs1 hkey mt1 m3 t3 g3 rg3 hlb hbw
      go_wp2
      exact ⟨REL.out, MS.out⟩
theorem sure_any (gd : Nat) (x : St) (T : Nat → Prop) (w : World) (h : DK w gd x T) (hn : x.sure.n < 1000000) : Calls Try.prog 30 #[.pointer (some ⟨gd, 0, none⟩)] w fun e w' => ∃ b2, e = .returned (.map (some b2)) ∧ Mt w' b2 x.sure.get x.sure.n ∧ Below w.heap.size w w' ∧ w.heap.size ≤ b2 := by
  obtain ⟨S1, S2, mn, ms, vo, vp, h⟩ := h
  have c1 : w.cell? ⟨gd, 1, none⟩ = some (.map ms) := h.cell 1 (by decide)
  rcases h.sure with ⟨rfl, hs, _⟩ | ⟨b, F, rfl, hf⟩
  · rw [hs]
    exact sure_nil gd w c1 (h.lt gd h.tg)
  · exact sure_some gd b F x.sure S2 w c1 (h.lt gd h.tg) hf hn
end
end Go.Proofs.Ythnfpdmhjennlaa
namespace Go.Proofs.Ythnfpdmhjennlaa
open Go.RowKit
open Go.Deep
open Go.Lib
set_option linter.unusedVariables false
/-- A file: its name and bytes. -/
structure Fi where
  nm : ByteArray
  s : ByteArray
def KFi : Ek Fi := ⟨26, 69, 2, 32, fun x => [.string x.nm, .string x.s], by decide, by decide, Try.underlying26, by kernel_rfl, fun _ => rfl, fun x v hv => by
  rcases List.mem_cons.1 hv with rfl | hv
  · rfl
  · rcases List.mem_cons.1 hv with rfl | hv
    · rfl
    · cases hv⟩
/-- Where a name stands, or -1. -/
def fdI (L : List Fi) (k : ByteArray) : Int := match L.findIdx? (fun x => decide (x.nm = k)) with | some i => (i : Int) | none => -1
theorem fd_at {L : List Fi} {k : ByteArray} (i : Nat) (hi : i < L.length) (hn : ∀ x ∈ L.take i, x.nm ≠ k) (hy : L[i].nm = k) : fdI L k = i := by
  unfold fdI
  have : L.findIdx? (fun x => decide (x.nm = k)) = some i := by
    rw [List.findIdx?_eq_some_iff_getElem]
    refine ⟨hi, by simpa using hy, fun j hj => ?_⟩
    have := hn (L[j]'(by omega)) (by rw [List.mem_take_iff_getElem]; exact ⟨j, by omega, rfl⟩)
    simp [this]
  rw [this]
theorem fd_none {L : List Fi} {k : ByteArray} (hn : ∀ x ∈ L, x.nm ≠ k) : fdI L k = -1 := by
  unfold fdI
  rw [List.findIdx?_eq_none_iff.2 (fun x hx => by simpa using hn x hx)]
theorem tl_ne {a b : ByteArray} (h : a ≠ b) : (a.toList == b.toList) = false := by
  rw [ByteArray.toList_eq, ByteArray.toList_eq]
  refine beq_eq_false_iff_ne.2 fun e => h ?_
  cases a
  cases b
  congr
  exact Array.toList_inj.1 e
theorem tl_same (a : ByteArray) : (a.toList == a.toList) = true := by simp
section
set_option maxRecDepth 10000
set_option maxHeartbeats 2000000
theorem rfind_any (L : List Fi) (v : Value) (nm : ByteArray) (w : World) (hv : LX KFi w v L) (hl : L.length ≤ 4611686018427387904) : Calls Try.prog 49 #[v, .string nm] w fun e w' => e = .returned (.int .i64 (fdI L nm)) ∧ w' = w := by
  have HV := hide hv
  obtain ⟨ao, cc, rfl⟩ := hv.form
  have HL := hide hl
  obtain ⟨R, hR⟩ : ∃ R, R = fdI L nm := ⟨_, rfl⟩
  rw [← hR]
  have HR := hide hR
  clear hR hv hl
  go_enter Try.func49, Try.ntmps49
  go_wp2
  go_loopw [5] (fun i wr => wr = w ∧ ∃ k : Nat, k ≤ L.length ∧ i = .int .i64 (k : Int) ∧ Hid (∀ x ∈ L.take k, x.nm ≠ nm)) (fun i _ => (L.length - intOf i).toNat)
  case atStart => exact ⟨rfl, 0, Nat.zero_le _, rfl, (fun f hf => by simp at hf)⟩
  case round =>
    obtain ⟨rfl, k, hk, rfl, HN⟩ := hrel
    by_cases hlt : k < L.length
    · obtain ⟨g, off, rfl⟩ := HV.out.base (by omega)
      have hr := HV.out.range k hlt
      have h1 : (0 : Int) ≤ (k : Int) := by omega
      have h2 : (k : Int) < L.length := by omega
      have hll := HL.out
      have e1 : IntKind.i64.wrap ((k : Int) + 1) = k + 1 := wrapI _ (by omega) (by omega)
      have HY : Hid (L[k].nm = nm → R = (k : Int)) := fun e => by rw [HR.out]; exact fd_at k hlt HN.out e
      have HM : Hid (L[k].nm ≠ nm → ∀ x ∈ L.take (k + 1), x.nm ≠ nm) := fun e f hf => by
        rw [List.take_succ_eq_append_getElem hlt] at hf
        rcases List.mem_append.1 hf with hf | hf
        · exact HN.out f hf
        · rw [List.mem_singleton.1 hf]
          exact e
      have c0 : wr.cell? ⟨g, off + k * 2, none⟩ = some (.string L[k].nm) := hr 0 _ rfl
      clear hr
      generalize L[k].nm = a at *
      by_cases hab : a = nm
      · subst hab
        have RK := hide (HY.out rfl)
        go_wp2
        go_ret
        exact ⟨by rw [RK.out]; rfl, rfl⟩
      · have hne := tl_ne hab
        have HM2 := hide (HM.out hab)
        clear HY HM hab
        go_wp2
        go_round
        case rel => exact ⟨trivial, k + 1, by omega, by go_num, HM2⟩
        case measure => simp [intOf]; omega
    · have h1 : ¬ (k : Int) < (L.length : Int) := by omega
      have hkn : k = L.length := by omega
      have RK : Hid (R = -1) := by
        show R = -1
        rw [HR.out]
        refine fd_none fun x hx => HN.out x ?_
        rw [hkn, List.take_length]
        exact hx
      go_wp2
      go_ret
      exact ⟨by rw [RK.out]; rfl, rfl⟩
end
end Go.Proofs.Ythnfpdmhjennlaa
namespace Go.Proofs.Ythnfpdmhjennlaa
open Go.RowKit
open Go.Deep
open Go.Lib
set_option linter.unusedVariables false
section
variable {α : Type} {w : World} {ops : Array Oper} {rest : List Oper} {o : Oper} {a : Act} {Q : Exit → Act → World → Prop}
theorem Ek.wpBs1 (E : Ek α) (hgd : o.guard = none) (x : Operand) (ho : o.op = .buildSlice E.t 1 #[(0, x)]) (h : α) (hx : a.eval x = .agg (E.enc h).toArray)
    (hk : wpList Try.prog ops Q rest (a.put o.dst (.slice (some ⟨w.heap.size, 0, none⟩) 1 1)) (w.alloc (.cells (E.enc h).toArray E.e))) : wpList Try.prog ops Q (o :: rest) a w := by
  refine wpList_plain hgd fun K hK => ?_
  unfold Oper.wp execOp
  simp only [ho, List.map_toArray, List.map_cons, List.map_nil, hx, E.bs1 w h, Sem.run_bind, Result.andThen_ok, Sem.run_pure]
  exact hK _ _ hk
end
theorem at_list {P : Program} {ops : Array Oper} {Q : Exit → Act → World → Prop} {l : List Oper} {a : Act} {w : World} (h : wpList P ops Q l a w) : wpList P ops Q l a w := h
theorem bs0KFi (w : World) : (Instr.buildSlice 26 0 #[]).run Try.prog w = .ok (.slice (some ⟨w.heap.size, 0, none⟩) 0 0) (w.alloc (.cells #[] 69)) := by
  kernel_rfl
/-- A list under way: an own row that the call has made. -/
structure Lw {α : Type} (E : Ek α) (w W : World) (v : Value) (L : List α) : Prop where
  ox : OX E W v L
  far : ∀ g, v.ownBlock = some g → w.heap.size ≤ g
  bel : Below w.heap.size w W
section
variable {α : Type} {E : Ek α} {w W W' : World} {v v' : Value} {L N : List α}
theorem Lw.next (h : Lw E w W v L) (b : Below W.heap.size W W') : Lw E w W' v L := ⟨h.ox.below b, h.far, below_next h.bel b⟩
theorem Lw.app (h : Lw E w W v L) (o : OX E W' v' N) (on : Onto W W' v v') : Lw E w W' v' N := by
  have g := on.grown
  refine ⟨o, fun k hk => ?_, h.bel.trans ⟨g.os, g.tape, g.output, g.size, fun k hk => g.block k (by have := h.bel.size; omega) (fun e => by have := h.far k e.symm; omega)⟩⟩
  rcases on.lies with e | ⟨b, e, hb⟩
  · exact h.far k (by rw [← e]; exact hk)
  · rw [e] at hk
    cases hk
    exact Nat.le_trans h.bel.size hb
end
/-- Files without a name. -/
def woL (L : List Fi) (k : ByteArray) : List Fi := L.filter fun x => decide (x.nm ≠ k)
theorem wo_le (L : List Fi) (k : ByteArray) : (woL L k).length ≤ L.length := List.length_filter_le _ _
theorem wo_no {L : List Fi} {k : ByteArray} {i : Nat} (hi : i < L.length) (h : L[i].nm = k) : woL (L.take (i + 1)) k = woL (L.take i) k := by
  unfold woL
  rw [List.take_succ_eq_append_getElem hi, List.filter_append]
  simp [h]
theorem wo_yes {L : List Fi} {k : ByteArray} {i : Nat} (hi : i < L.length) (h : L[i].nm ≠ k) : woL (L.take (i + 1)) k = woL (L.take i) k ++ [L[i]] := by
  unfold woL
  rw [List.take_succ_eq_append_getElem hi, List.filter_append]
  simp [h]
section
set_option maxRecDepth 10000
set_option maxHeartbeats 2000000
theorem rwithout_any (L : List Fi) (v : Value) (nm : ByteArray) (w : World) (hv : LX KFi w v L) (hl : L.length ≤ 1000000000) : Calls Try.prog 57 #[v, .string nm] w fun e w' => ∃ v', e = .returned v' ∧ OX KFi w' v' (woL L nm) ∧ (∀ g, v'.ownBlock = some g → w.heap.size ≤ g) ∧ Below w.heap.size w w' := by
  have HV := hide hv
  obtain ⟨ao, cc, rfl⟩ := hv.form
  have HL := hide hl
  have h5 := bs0KFi
  have J0 : Hid (Lw KFi w (w.alloc (.cells #[] 69)) (.slice (some ⟨w.heap.size, 0, none⟩) 0 0) (woL (L.take 0) nm)) := ⟨World.ownsRow_made w #[] 0 (Nat.zero_le _) (Nat.zero_le _) rfl, fun g hg => by cases hg; exact Nat.le_refl _, (Below.refl w.heap.size w).alloc (Nat.le_refl _) _⟩
  clear hv hl
  go_enter Try.func57, Try.ntmps57
  go_wp2
  clear h5
  generalize w.alloc (.cells #[] 69) = W0 at *
  go_loopw [5, 6] (fun u i wr => ∃ k : Nat, k ≤ L.length ∧ i = .int .i64 (k : Int) ∧ Hid (Lw KFi w wr u (woL (L.take k) nm))) (fun _ i _ => (L.length - intOf i).toNat)
  case atStart => exact ⟨0, Nat.zero_le _, rfl, J0⟩
  case round =>
    clear J0
    obtain ⟨k, hk, rfl, J⟩ := hrel
    by_cases hlt : k < L.length
    · obtain ⟨g, off, rfl⟩ := HV.out.base (by omega)
      have hr := (HV.out.below J.out.bel).range k hlt
      have h1 : (0 : Int) ≤ (k : Int) := by omega
      have h2 : (k : Int) < L.length := by omega
      have hll := HL.out
      have e1 : IntKind.i64.wrap ((k : Int) + 1) = k + 1 := wrapI _ (by omega) (by omega)
      have c0 : wr.cell? ⟨g, off + k * 2, none⟩ = some (.string L[k].nm) := hr 0 _ rfl
      have c1 : wr.cell? ⟨g, off + k * 2 + 1, none⟩ = some (.string L[k].s) := hr 1 _ rfl
      have LT := hide hlt
      have N1 : Hid (L[k].nm = nm → woL (L.take (k + 1)) nm = woL (L.take k) nm) := fun e => wo_no hlt e
      have N2 : Hid (L[k].nm ≠ nm → woL (L.take (k + 1)) nm = woL (L.take k) nm ++ [L[k]]) := fun e => wo_yes hlt e
      clear hr
      generalize L[k] = x at *
      by_cases hab : x.nm = nm
      · have J2 : Hid (Lw KFi w wr u5 (woL (L.take (k + 1)) nm)) := by
          show Lw _ _ _ _ _
          rw [N1.out hab]
          exact J.out
        rw [hab] at c0
        have hs := tl_same nm
        clear hab hlt N1 N2
        go_wp2
        go_round
        case rel => exact ⟨k + 1, LT.out, by go_num, J2⟩
        case measure => have := LT.out; simp [intOf]; omega
      · have NX := hide (N2.out hab)
        have hne := tl_ne hab
        have SZ : Hid (((woL (L.take k) nm).length + 1) * KFi.b ≤ 140737488355328 ∧ (woL (L.take k) nm).length + 1 ≤ maxLen) := by
          have q := wo_le (L.take k) nm
          rw [List.length_take] at q
          refine ⟨show ((woL (L.take k) nm).length + 1) * 32 ≤ _ by omega, by unfold maxLen; omega⟩
        clear N1 N2
        clear hab hlt
        go_upto_region 4 with ((with_reducible refine at_list ?_); first | (refine Ek.wpBs1 KFi rfl _ rfl x rfl ?_; have b4 := (Below.refl wr.heap.size wr).alloc (Nat.le_refl _) (.cells (KFi.enc x).toArray KFi.e); have N4 := hide (one_newX (E := KFi) wr x); have J4 := hide (J.out.next b4); clear b4; generalize wr.alloc (.cells (KFi.enc x).toArray KFi.e) = W4 at *; generalize wr.heap.size = gb at *) | (refine Ek.wpApp KFi rfl _ _ rfl u5 (woL (L.take k) nm) rfl J4.out.ox ⟨gb, 0, none⟩ 1 1 [x] rfl rfl N4.out SZ.out.1 SZ.out.2 ?_; intro v5 W5 o5 n5; have J5 := hide (J4.out.app o5 n5); clear o5 n5))
        rw [← NX.out] at J5
        clear J J4 N4 SZ NX
        go_wp2
        go_round
        case rel => exact ⟨k + 1, LT.out, by go_num, J5⟩
        case measure => have := LT.out; simp [intOf]; omega
    · have h1 : ¬ (k : Int) < (L.length : Int) := by omega
      have hkn : k = L.length := by omega
      have JE : Hid (Lw KFi w wr u5 (woL L nm)) := by
        have := J.out
        rw [hkn, List.take_length] at this
        exact this
      go_wp2
      go_ret
      exact ⟨_, rfl, JE.out.ox, JE.out.far, JE.out.bel⟩
end
end Go.Proofs.Ythnfpdmhjennlaa
