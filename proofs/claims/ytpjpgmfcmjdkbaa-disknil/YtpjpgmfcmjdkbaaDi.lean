/- A copy of all files. -/
import Derived.Test.YtpjpgmfcmjdkbaaDh
namespace Go.Proofs.Ytpjpgmfcmjdkbaa
open Go.RowKit
open Go.Deep
open Go.Lib
open Go.Maps
open Go.MapKept Go.ChangeMaps Go.WideElems
/-- The names of a map. -/
theorem Mp.names {w : World} {b n : Nat} {F : List UInt8 → Option Value} (h : Mp w b F n) : ∃ ks : List Lit, ks.Nodup ∧ ks.length = n ∧ ∀ x, x ∈ ks ↔ ∃ k, x = .string k ∧ (F k).isSome = true := by
  obtain ⟨D, ho, hh, _, hs⟩ := h.ex
  obtain ⟨es, hD, hp, _⟩ := ho.entries lawS
  obtain ⟨es0, clock, _, Ft, _, hD0⟩ := ho
  have hk : ∀ p ∈ es, ∃ k, p.1 = .string k := fun p hp => by
    rw [hD] at hD0
    injection hD0 with hD0
    rw [hD0] at hp
    obtain ⟨v, hv⟩ := Maps.fit_keys Ft p (mem_sorted.1 hp)
    obtain ⟨s, _, hs, _⟩ := keyS_inv hv
    exact ⟨_, hs⟩
  refine ⟨es.map (·.1), ?_, ?_, fun x => ?_⟩
  · rw [List.nodup_iff_pairwise_ne, List.pairwise_map]
    exact hp
  · rw [List.length_map, ← hs, hD]
    rfl
  · rw [List.mem_map]
    constructor
    · rintro ⟨p, hpe, rfl⟩
      obtain ⟨k, hk'⟩ := hk p hpe
      refine ⟨k, hk', ?_⟩
      rw [← hh, hD, Maps.has_eq, List.any_eq_true]
      exact ⟨p, hpe, by rw [hk']; exact WideAt.sameKey_self trivial⟩
    · rintro ⟨k, rfl, hF⟩
      rw [← hh, hD, Maps.has_eq, List.any_eq_true] at hF
      obtain ⟨p, hpe, hsk⟩ := hF
      exact ⟨p, hpe, WideAt.sameKey_eq hsk⟩
/-- A map of no other names is no larger. -/
theorem Mp.size_le {w w' : World} {b b' n n' : Nat} {F F' : List UInt8 → Option Value} (h : Mp w b F n) (h' : Mp w' b' F' n') (e : ∀ k, (F k).isSome = true → (F' k).isSome = true) : n ≤ n' := by
  obtain ⟨ks, n1, l1, m1⟩ := h.names
  obtain ⟨ks', n2, l2, m2⟩ := h'.names
  rw [← l1, ← l2]
  refine n1.length_le_of_subset fun x hx => ?_
  obtain ⟨k, h1, h2⟩ := (m1 x).1 hx
  exact (m2 x).2 ⟨k, h1, e k h2⟩
/-- Two maps of the same names are of one size. -/
theorem Mp.size_eq {w w' : World} {b b' n n' : Nat} {F F' : List UInt8 → Option Value} (h : Mp w b F n) (h' : Mp w' b' F' n') (e : ∀ k, (F k).isSome = (F' k).isSome) : n = n' :=
  Nat.le_antisymm (h.size_le h' fun k hk => by rw [← e]; exact hk) (h'.size_le h fun k hk => by rw [e]; exact hk)
theorem Fq.weak {w : World} {b : Nat} {F : List UInt8 → Option Value} {f : FS} {S : Nat → Prop} (h : Fs w b F f S) (X : List UInt8 → Prop) : Fq X w b F f S :=
  ⟨h.mp, h.dom, fun k v l _ => h.own k v l (fun e => e), fun k v g _ => h.ins k v g (fun e => e), fun k k' v v' g _ _ => h.one k k' v v' g (fun e => e) (fun e => e), h.self, h.lt⟩
theorem make_some (n : Int) (w : World) : (Instr.makeMap 62 (some (.int .i64 n))).run Try.prog w = .ok (.map (some w.heap.size)) (w.alloc (.map #[] 0)) := by
  unfold Instr.makeMap
  simp [run_underlying Try.underlying62, asInt, newObj]
  rfl
theorem grownBy_of_below {w w' : World} (h : Below w.heap.size w w') : w.grownBy w' none := ⟨h.os, h.tape, h.output, h.size, fun k hk _ => h.block k hk⟩
/-- A copy under way: what is copied is all that is not left. -/
structure Cp (w wr : World) (b : Nat) (f : FS) (D : DataW Unit) (left : Lit → Bool) (F2 : List UInt8 → Option Value) (f2 : FS) : Prop where
  fs : Fs wr w.heap.size F2 f2 (fun g => w.heap.size ≤ g ∧ g < wr.heap.size ∧ g ≠ w.heap.size + 1)
  get : ∀ k, f2.get k = if Maps.has D (.string k) && !left (.string k) then f.get k else none
  bel : Below w.heap.size w wr
  n : f2.n ≤ f.n
section
set_option maxRecDepth 10000
set_option maxHeartbeats 4000000
theorem clone_any (b : Nat) (F : List UInt8 → Option Value) (f : FS) (S : Nat → Prop) (w : World) (h : Fs w b F f S) (hn : f.n < 1000000) (hl : ∀ k, (f.at k).length ≤ 140737488355328) : Calls Try.prog 48 #[.map (some b)] w fun e w' => ∃ b2 F2, e = .returned (.map (some b2)) ∧ Fs w' b2 F2 f (fun g => w.heap.size ≤ g ∧ g < w'.heap.size) ∧ Below w.heap.size w w' := by
  obtain ⟨D, ho, hh, ha, hs⟩ := h.mp.ex
  have hlen := h.mp.len
  have hmk := make_some f.n
  have hB : Below w.heap.size w (w.alloc (.map #[] 0)) := (Below.refl _ _).alloc (Nat.le_refl _) _
  have ho1 := hide (ho.alloc (.map #[] 0))
  have HH := hide h
  have HD := hide (And.intro hh (And.intro ha hs))
  have HN := hide (And.intro hn hl)
  have HB := hide hB
  clear h ho hh ha hs hn hl hB
  go_enter Try.func48, Try.ntmps48
  go_wp2_with (first | (at_range; refine wpList_range_own _ rfl _ 62 rfl 9 81 lawS Try.underlying62 _ b f.n D rfl ho1.out ?_; intro w0 hrg0 hg0 hs0))
  go_frame
  have hz1 : (w.alloc (.map #[] 0)).heap.size = w.heap.size + 1 := by simp
  rw [hz1] at hrg0 hs0 ⊢
  have C0 : Hid (Cp w w0 b f D (Maps.has D) (fun _ => none) FS.none) := by
    have hbl : Below w.heap.size w w0 := HB.out.trans ⟨hg0.os, hg0.tape, hg0.output, hg0.size, fun k hk => hg0.block k (by omega) (by simp)⟩
    refine ⟨⟨(Mp.made w).of_block (hg0.block _ (by omega) (by simp)), fun _ => rfl, fun k v l _ hv => (by cases hv), fun k v g _ hv => (by cases hv), fun k k' v v' g _ _ hv => (by cases hv), ⟨Nat.le_refl _, by omega, by omega⟩, fun g hg => hg.2.1⟩, fun k => ?_, hbl, Nat.zero_le _⟩
    cases Maps.has D (.string k) <;> rfl
  have RG0 := hide hrg0
  clear hrg0 hg0 hs0 hz1 hlen hmk ho1 HB
  go_loopw [11] (fun _ wr => ∃ left cnt F2 f2, Hid (wr.ranges Try.prog 9 slE b (w.heap.size + 1) f.n D left cnt) ∧ Hid (Cp w wr b f D left F2 f2)) (fun _ wr => wr.rangeLeft b (w.heap.size + 1))
  case atStart => exact ⟨_, _, _, _, RG0, C0⟩
  case round =>
    clear RG0 C0
    obtain ⟨left, cnt, F2, f2, RG, C2⟩ := hrel
    rcases RG.out.next lawS 0 with ⟨h0, hl0, hrun⟩ | ⟨key, v, kl, y, w1, cnt1, hkey, hlk, hv, hat, hrun, hrg1, hlt, hg1, hs1, hen⟩
    · go_wp2
      go_ret
      have e : f2 = f := by
        have hget : ∀ k, f2.get k = f.get k := fun k => by
          rw [C2.out.get, hl0, HD.out.1, HH.out.dom]
          cases hk : f.get k <;> simp
        have hn := C2.out.fs.mp.size_eq HH.out.mp fun k => by rw [C2.out.fs.dom, HH.out.dom, hget]
        cases f2
        cases f
        congr
        funext k
        exact hget k
      have c2 := C2.out
      rw [e] at c2
      exact ⟨_, _, rfl, c2.fs.wide (fun g hg => ⟨hg.1, hg.2.1⟩) (fun g hg => hg.2), c2.bel⟩
    · obtain ⟨s, rfl, rfl, hsm⟩ := keyS_inv hkey
      have hhas : Maps.has D (.string s.data.toList) = true := Maps.has_true_of_atKey hat
      have hFs : (F s.data.toList).isSome = true := by rw [← HD.out.1]; exact hhas
      obtain ⟨v0, hv0⟩ := Option.isSome_iff_exists.1 hFs
      obtain ⟨y0, hy0, hat0⟩ := HD.out.2.1 _ _ hv0
      have hvv : v = v0 := by
        obtain ⟨y1, y2⟩ := y
        have e1 := hat (.agg [])
        rw [hat0] at e1
        simp only at e1
        subst e1
        exact slE_inj hv hy0
      subst hvv
      obtain ⟨l, hl⟩ := Option.isSome_iff_exists.1 (by rw [← HH.out.dom]; exact hFs : (f.get s.data.toList).isSome = true)
      have hB1 : Below w.heap.size w w1 := C2.out.bel.trans ⟨hg1.os, hg1.tape, hg1.output, hg1.size, fun k hk => hg1.block k (by have := C2.out.bel.size; omega) (by intro e; cases e; omega)⟩
      have O1 : Own w1 v l := (HH.out.own _ _ _ (fun e => e) hv0 hl).of_block fun g hg => hB1.block g (HH.out.lt g (HH.out.ins _ _ g (fun e => e) hv0 hg))
      have f21 : Fs w1 w.heap.size F2 f2 (fun g => w.heap.size ≤ g ∧ g < wr.heap.size ∧ g ≠ w.heap.size + 1) := C2.out.fs.frame (by omega) fun g hg => hg1.block g hg.2.1 (by intro e; cases e; exact hg.2.2 rfl)
      have hll : l.length ≤ 140737488355328 := by
        have := HN.out.2 s.data.toList
        rwa [FS.at, hl] at this
      have HC := hide (cloneB_any v l w1 O1 hll)
      have PT : Hid (∀ w2 v', Own w2 v' l → Below w1.heap.size w1 w2 → (∀ g, v'.ownBlock = some g → w1.heap.size ≤ g) → ∃ w3, (Instr.mapUpdate 62 (.map (some w.heap.size)) (.string s) v').run Try.prog w2 = .ok () w3 ∧ w3.rangeLeft b (w.heap.size + 1) < wr.rangeLeft b (w.heap.size + 1) ∧ ∃ left cnt F2 f2, Hid (w3.ranges Try.prog 9 slE b (w.heap.size + 1) f.n D left cnt) ∧ Hid (Cp w w3 b f D left F2 f2)) := fun w2 v' o2 b2 far2 => by
        have hz := C2.out.bel.size
        have hz2 := b2.size
        have fq : Fq (fun x => x = s.data.toList) w2 w.heap.size F2 f2 (fun g => w.heap.size ≤ g ∧ g < w2.heap.size ∧ g ≠ w.heap.size + 1) := ((f21.below b2).wide (fun g hg => ⟨hg.1, by omega, hg.2.2⟩) (fun g hg => hg.2.1)).weak _
        have hr1 := RG.out.lt
        obtain ⟨w3, hr3, f3, g3, z3⟩ := fq.put rfl (by have := HN.out.1; have := C2.out.n; unfold maxLen; omega) hsm o2 (fun g hg => ⟨by have := far2 g hg; omega, o2.ltb hg, by have := far2 g hg; omega⟩) (fun k' v'' g hk' hF2 hg e => by
          have h1 := (f21.ins k' v'' g (fun e => e) hF2 hg).2.1
          have h2 := far2 g e
          omega)
        have rg2 : w2.ranges Try.prog 9 slE b (w.heap.size + 1) f.n D (fun x => left x && !x.sameKey (.string s.data.toList)) cnt1 := hrg1.kept (grownBy_of_below b2) (by simp) (by simp)
        have hbw := HH.out.mp.lt
        have rg3 := rg2.kept g3 (by intro e; injection e with e; omega) (by intro e; injection e with e; omega)
        refine ⟨w3, hr3, by rw [rg3.left_eq, RG.out.left_eq]; exact hlt, _, _, _, _, rg3, ⟨f3.wide (fun g hg => ⟨hg.1, by omega, hg.2.2⟩) (fun g hg => hg.2.1), fun k => ?_, ?_, ?_⟩⟩
        · rw [FS.put_get]
          by_cases hk : k = s.data.toList
          · have hsk : (Lit.string s.data.toList).sameKey (.string s.data.toList) = true := WideAt.sameKey_self trivial
            rw [if_pos hk, hk, hhas, hsk, hl]
            simp
          · rw [if_neg hk, C2.out.get, Maps.sameKey_ne (str_ne hk)]
            simp
        · exact (hB1.trans (b2.mono (by omega))).trans ⟨g3.os, g3.tape, g3.output, g3.size, fun k hk => g3.block k (by omega) (by intro e; cases e; omega)⟩
        · show (f2.put s.data.toList l).n ≤ f.n
          exact f3.mp.size_le HH.out.mp fun k hk => by
            rw [f3.dom, FS.put_get] at hk
            rw [HH.out.dom]
            by_cases hks : k = s.data.toList
            · rw [hks, hl]
              rfl
            · rw [if_neg hks, C2.out.get] at hk
              cases hf : f.get k
              · rw [hf] at hk
                split at hk <;> cases hk
              · rfl
      clear hat hat0 hy0 hv hhas hFs hv0 hl hB1 O1 f21 hll hlk hrg1 hlt hg1 hs1 hkey
      go_wp2_with (first | (go_at_call 63; refine HC.out.mono ?_; rintro e w2 ⟨v', rfl, o2, b2, far2⟩; obtain ⟨w3, hr3, hm3, hrel3⟩ := PT.out w2 v' o2 b2 far2; have REL := hide hrel3; have MS := hide hm3; clear hrel3 hm3 o2 b2 far2))
      exact ⟨REL.out, MS.out⟩
end
end Go.Proofs.Ytpjpgmfcmjdkbaa
