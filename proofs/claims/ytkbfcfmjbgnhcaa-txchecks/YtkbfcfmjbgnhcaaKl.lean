/- tx's parts: lists: their contracts. -/
import Derived.Test.YtkbfcfmjbgnhcaaKk
namespace Go.Proofs.Ytkbfcfmjbgnhcaa
open Go.RowKit
open Go.Deep
set_option linter.unusedVariables false
/-- While a list is taken. -/
structure Tl {α : Type} (E : Ek α) (w W : World) (b : Nat) (t : ByteArray) (n : Nat) (e : Int) (v : Value) (L : List α) : Prop where
  px : Px w W b t
  rd : Rd W b t n e
  ox : OX E W v L
  far : ∀ g, v.ownBlock = some g → w.heap.size < g
section
variable {α : Type} {E : Ek α} {w W W' : World} {b : Nat} {t : ByteArray} {n n' : Nat} {e e' : Int} {v v' : Value} {L L' : List α}
theorem Tl.step (h : Tl E w W b t n e v L) (r : Rd W' b t n' e') (f : Rfr b W W') : Tl E w W' b t n' e' v L := ⟨h.px.step f, r, h.ox.keep f (fun g hg => by have := h.far g hg; have := h.px.lt; omega), h.far⟩
theorem Tl.app (h : Tl E w W b t n e v L) (o : Obj) (x : OX E W' v' L') (on : Onto (W.alloc o) W' v v') : Tl E w W' b t n e v' L' := by
  have hr := lt_heap h.px.row
  have hsz : (W.alloc o).heap.size = W.heap.size + 1 := by simp
  have hk : ∀ k, k ≤ w.heap.size → W'.heap[k]? = W.heap[k]? := fun k hk => (on.grown.block k (by omega) (fun e => by have := h.far k e.symm; omega)).trans (Below.heap_alloc W o k (by omega))
  have g := on.grown
  have bs : Below (W.alloc o).heap.size (W.alloc o) (W.alloc o) := Below.refl _ _
  have ba : Below W.heap.size W (W.alloc o) := (Below.refl _ _).alloc (Nat.le_refl _) _
  refine ⟨⟨⟨(g.os.trans ba.os).trans h.px.fr.os, (g.tape.trans ba.tape).trans h.px.fr.tape, (g.output.trans ba.output).trans h.px.fr.output, ?_, fun k k1 k2 => (hk k (by omega)).trans (h.px.fr.block k k1 k2)⟩, (hk _ (Nat.le_refl _)).trans h.px.row, h.px.lt⟩, ⟨h.rd.le, h.rd.lt, (hk b (by have := h.px.lt; omega)).trans h.rd.st⟩, x, fun g hg => ?_⟩
  · have := h.px.fr.size
    have := g.size
    omega
  · rcases on.lies with q | ⟨c, q, hc⟩
    · exact h.far g (by rw [← q]; exact hg)
    · rw [q] at hg
      cases hg
      omega
end
section
set_option maxRecDepth 10000
set_option maxHeartbeats 4000000
variable {w : World} {b : Nat} {t : ByteArray} {n : Nat} {e : Int}
theorem takeIns_any (h : Rd w b t n e) (hs : t.size ≤ maxLen) : Calls Try.prog 43 #[px b t, .func (.func 44) #[px b t] #[]] w fun r w' => ∃ (L : List Ti) (ao : Option Addr) (co n' : Nat) (e' : Int), r = .returned (.slice ao L.length co) ∧ OX KA w' (.slice ao L.length co) L ∧ (∀ g, (Value.slice ao L.length co).ownBlock = some g → w.heap.size < g) ∧ (L.length ≤ 4096 ∧ ∀ x ∈ L, x.ok) ∧ Rd w' b t n' e' ∧ Rfr b w w' ∧ Tk (fun l : List Ti => countL l.length ++ (l.map Ti.bytes).flatten) (fun l => l.length ≤ 4096 ∧ ∀ z ∈ l, Ti.ok z) t n e L n' e' := by
  have P0 := hide (Px.new (t := t) h.st.lt)
  have b1 := (Below.refl w.heap.size w).alloc (Nat.le_refl _) (.cells #[.string t, .pointer (some ⟨b, 0, none⟩)] 82)
  have R0 := hide (h.below b1)
  have HC : Hid (∀ W n e, Rd W b t n e → Calls Try.prog 49 #[.agg #[.string t, .pointer (some ⟨b, 0, none⟩)], .int .u64 4096, .int .i64 5] W fun r w' => ∃ (c n' : Nat) (e' : Int), r = .returned (.int .i64 (c : Int)) ∧ c ≤ 4096 ∧ Rd w' b t n' e' ∧ Rfr b W w' ∧ Tk countL (fun k => k ≤ 4096) t n e c n' e') := fun W n e g => tcount_any 4096 (by decide) 5 (by decide) g hs
  have HI : Hid (∀ W n e, Rd W b t n e → Calls Try.prog 44 #[.agg #[.string t, .pointer (some ⟨b, 0, none⟩)]] W fun r w' => ∃ (v : Ti) (n' : Nat) (e' : Int), r = .returned (.agg v.cells.toArray) ∧ v.ok ∧ Rd w' b t n' e' ∧ Rfr b W w' ∧ Tk Ti.bytes Ti.ok t n e v n' e') := fun W n e g => tinput_any g hs
  have HE : Hid (∀ W n e, Rd W b t n e → Calls Try.prog 34 #[.pointer (some ⟨b, 0, none⟩)] W fun r w' => r = .returned (.int .i64 e) ∧ w' = W) := fun W n e g => rErr b t W n e g.st
  unfold px
  clear h hs b1
  go_enter Try.func43, Try.ntmps43
  go_upto_region 2 with fail
  generalize w.alloc (.cells #[.string t, .pointer (some ⟨b, 0, none⟩)] 82) = A at *
  go_upto_region 3 with (first | (go_at_call 49; refine (HC.out _ _ _ R0.out).mono ?_; rintro r W1 ⟨c, n0, e0, rfl, hc, g1, f1, t1⟩; have P1 := hide (P0.out.step f1); have R1 := hide g1; have T1 := hide t1; have CM := hide hc; clear g1 f1 t1 hc) | ((with_reducible refine at_list ?_); refine wpList_loadS APx _ rfl w.heap.size rfl #[.string t, .pointer (some ⟨b, 0, none⟩)] rfl 82 P0.out.row (by rfl) ?_))
  clear P0 R0 HC
  go_loopw [5, 8] (fun v i wr => ∃ (k : Nat) (ao : Option Addr) (co : Nat) (L : List Ti) (n1 : Nat) (e1 : Int), k ≤ c ∧ i = .int .i64 (k : Int) ∧ v = .slice ao L.length co ∧ Hid (Tl KA w wr b t n1 e1 (.slice ao L.length co) L ∧ (L.length = k ∧ ∀ x ∈ L, x.ok) ∧ Tk (fun l : List Ti => (l.map Ti.bytes).flatten) (fun l => l.length = k ∧ ∀ z ∈ l, Ti.ok z) t n0 e0 L n1 e1)) (fun _ i _ => (c - intOf i).toNat)
  case atStart => exact ⟨0, none, 0, [], n0, e0, Nat.zero_le _, rfl, rfl, ⟨P1.out, R1.out, OX.nil _, fun g hg => by cases hg⟩, ⟨rfl, fun x hx => by cases hx⟩, Tk.nil R1.out.le (fun _ => R1.out.lt)⟩
  case round =>
    clear P1 R1
    obtain ⟨k, ao, co, L, n1, e1, hk, rfl, rfl, J⟩ := hrel
    by_cases hlt : k < c
    · have h1 : (k : Int) < (c : Int) := by omega
      have h5 := CM.out
      have e5 : IntKind.i64.wrap ((k : Int) + 1) = k + 1 := wrapI _ (by omega) (by omega)
      have KX := hide (And.intro (show k + 1 ≤ c by omega) (show ((c : Int) - ((k : Int) + 1)).toNat < ((c : Int) - (k : Int)).toNat by omega))
      have LZ := hide (show L.length ≤ 4096 by have := J.out.2.1.1; omega)
      have c1 := J.out.1.px.c1
      by_cases he : e1 = 0
      · have hne : (e1 != 0) = false := by simp [he]
        clear he hk hlt h5
        generalize hN : L.length = N at *
        have HN := hide hN
        clear hN
        go_upto_region 6 with (go_at_call 34; refine (HE.out _ _ _ J.out.1.rd).mono ?_; rintro r W2 ⟨rfl, rfl⟩)
        go_wp2_with (first | (go_at_call 44; refine (HI.out _ _ _ J.out.1.rd).mono ?_; rintro r W3 ⟨x, n2, e2, rfl, xo, g1, f1, t1⟩; have J2 := hide (And.intro (J.out.1.step g1 f1) (And.intro xo (J.out.2.2.snoc t1))); clear g1 f1 t1 xo) | ((with_reducible refine at_list ?_); refine Ek.wpBs1 KA rfl _ rfl x rfl ?_) | (at_builtin; refine Ek.wpApp KA rfl _ _ rfl _ L rfl (J2.out.1.ox.below ((Below.refl _ _).alloc (Nat.le_refl _) _)) ⟨_, 0, none⟩ 1 1 [x] rfl rfl (one_newX _ x) (by have := LZ.out; have := HN.out; show (L.length + 1) * 64 ≤ _; omega) (by have := LZ.out; have := HN.out; unfold maxLen; omega) ?_; intro v' W4 o4 on4; obtain ⟨ao4, co4, rfl⟩ := o4.form; have J4 := hide (J2.out.1.app _ o4 on4); clear o4 on4))
        refine ⟨⟨k + 1, ao4, co4, L ++ [x], n2, e2, KX.out.1, by go_num, by simp, J4.out, ⟨by rw [List.length_append, HN.out, J.out.2.1.1]; rfl, fun y hy => ?_⟩, J2.out.2.2⟩, by simpa [intOf] using KX.out.2⟩
        rcases List.mem_append.1 hy with q | q
        · exact J.out.2.1.2 y q
        · rw [List.mem_singleton.1 q]; exact J2.out.2.1
      · have hne : (e1 != 0) = true := by simp [he]
        have NE := hide he
        have KC := hide (show k ≤ c by omega)
        clear he hk hlt h5
        go_wp2_with (go_at_call 34; refine (HE.out _ _ _ J.out.1.rd).mono ?_; rintro r W2 ⟨rfl, rfl⟩)
        go_ret
        exact ⟨[], none, 0, n1, e1, rfl, OX.nil _, (fun g hg => by cases hg), ⟨Nat.zero_le _, fun x hx => by cases hx⟩, J.out.1.rd, J.out.1.px.fr, T1.out.left J.out.2.2 KC.out NE.out⟩
    · have h1 : ¬ (k : Int) < (c : Int) := by omega
      have hkc : k = c := by omega
      subst hkc
      clear hk hlt
      go_wp2
      go_ret
      exact ⟨L, ao, co, rfl, J.out.1.ox, J.out.1.far, ⟨by rw [J.out.2.1.1]; exact CM.out, J.out.2.1.2⟩, n1, e1, J.out.1.rd, J.out.1.px.fr, T1.out.list J.out.2.2⟩
theorem takeOuts_any (h : Rd w b t n e) (hs : t.size ≤ maxLen) : Calls Try.prog 45 #[px b t, .func (.func 46) #[px b t] #[]] w fun r w' => ∃ (L : List Tu) (ao : Option Addr) (co n' : Nat) (e' : Int), r = .returned (.slice ao L.length co) ∧ OX KO w' (.slice ao L.length co) L ∧ (∀ g, (Value.slice ao L.length co).ownBlock = some g → w.heap.size < g) ∧ (L.length ≤ 4096 ∧ ∀ x ∈ L, x.ok) ∧ Rd w' b t n' e' ∧ Rfr b w w' ∧ Tk (fun l : List Tu => countL l.length ++ (l.map Tu.bytes).flatten) (fun l => l.length ≤ 4096 ∧ ∀ z ∈ l, Tu.ok z) t n e L n' e' := by
  have P0 := hide (Px.new (t := t) h.st.lt)
  have b1 := (Below.refl w.heap.size w).alloc (Nat.le_refl _) (.cells #[.string t, .pointer (some ⟨b, 0, none⟩)] 82)
  have R0 := hide (h.below b1)
  have HC : Hid (∀ W n e, Rd W b t n e → Calls Try.prog 49 #[.agg #[.string t, .pointer (some ⟨b, 0, none⟩)], .int .u64 4096, .int .i64 5] W fun r w' => ∃ (c n' : Nat) (e' : Int), r = .returned (.int .i64 (c : Int)) ∧ c ≤ 4096 ∧ Rd w' b t n' e' ∧ Rfr b W w' ∧ Tk countL (fun k => k ≤ 4096) t n e c n' e') := fun W n e g => tcount_any 4096 (by decide) 5 (by decide) g hs
  have HI : Hid (∀ W n e, Rd W b t n e → Calls Try.prog 46 #[.agg #[.string t, .pointer (some ⟨b, 0, none⟩)]] W fun r w' => ∃ (v : Tu) (n' : Nat) (e' : Int), r = .returned (.agg v.cells.toArray) ∧ v.ok ∧ Rd w' b t n' e' ∧ Rfr b W w' ∧ Tk Tu.bytes Tu.ok t n e v n' e') := fun W n e g => toutput_any g hs
  have HE : Hid (∀ W n e, Rd W b t n e → Calls Try.prog 34 #[.pointer (some ⟨b, 0, none⟩)] W fun r w' => r = .returned (.int .i64 e) ∧ w' = W) := fun W n e g => rErr b t W n e g.st
  unfold px
  clear h hs b1
  go_enter Try.func45, Try.ntmps45
  go_upto_region 2 with fail
  generalize w.alloc (.cells #[.string t, .pointer (some ⟨b, 0, none⟩)] 82) = A at *
  go_upto_region 3 with (first | (go_at_call 49; refine (HC.out _ _ _ R0.out).mono ?_; rintro r W1 ⟨c, n0, e0, rfl, hc, g1, f1, t1⟩; have P1 := hide (P0.out.step f1); have R1 := hide g1; have T1 := hide t1; have CM := hide hc; clear g1 f1 t1 hc) | ((with_reducible refine at_list ?_); refine wpList_loadS APx _ rfl w.heap.size rfl #[.string t, .pointer (some ⟨b, 0, none⟩)] rfl 82 P0.out.row (by rfl) ?_))
  clear P0 R0 HC
  go_loopw [5, 8] (fun v i wr => ∃ (k : Nat) (ao : Option Addr) (co : Nat) (L : List Tu) (n1 : Nat) (e1 : Int), k ≤ c ∧ i = .int .i64 (k : Int) ∧ v = .slice ao L.length co ∧ Hid (Tl KO w wr b t n1 e1 (.slice ao L.length co) L ∧ (L.length = k ∧ ∀ x ∈ L, x.ok) ∧ Tk (fun l : List Tu => (l.map Tu.bytes).flatten) (fun l => l.length = k ∧ ∀ z ∈ l, Tu.ok z) t n0 e0 L n1 e1)) (fun _ i _ => (c - intOf i).toNat)
  case atStart => exact ⟨0, none, 0, [], n0, e0, Nat.zero_le _, rfl, rfl, ⟨P1.out, R1.out, OX.nil _, fun g hg => by cases hg⟩, ⟨rfl, fun x hx => by cases hx⟩, Tk.nil R1.out.le (fun _ => R1.out.lt)⟩
  case round =>
    clear P1 R1
    obtain ⟨k, ao, co, L, n1, e1, hk, rfl, rfl, J⟩ := hrel
    by_cases hlt : k < c
    · have h1 : (k : Int) < (c : Int) := by omega
      have h5 := CM.out
      have e5 : IntKind.i64.wrap ((k : Int) + 1) = k + 1 := wrapI _ (by omega) (by omega)
      have KX := hide (And.intro (show k + 1 ≤ c by omega) (show ((c : Int) - ((k : Int) + 1)).toNat < ((c : Int) - (k : Int)).toNat by omega))
      have LZ := hide (show L.length ≤ 4096 by have := J.out.2.1.1; omega)
      have c1 := J.out.1.px.c1
      by_cases he : e1 = 0
      · have hne : (e1 != 0) = false := by simp [he]
        clear he hk hlt h5
        generalize hN : L.length = N at *
        have HN := hide hN
        clear hN
        go_upto_region 6 with (go_at_call 34; refine (HE.out _ _ _ J.out.1.rd).mono ?_; rintro r W2 ⟨rfl, rfl⟩)
        go_wp2_with (first | (go_at_call 46; refine (HI.out _ _ _ J.out.1.rd).mono ?_; rintro r W3 ⟨x, n2, e2, rfl, xo, g1, f1, t1⟩; have J2 := hide (And.intro (J.out.1.step g1 f1) (And.intro xo (J.out.2.2.snoc t1))); clear g1 f1 t1 xo) | ((with_reducible refine at_list ?_); refine Ek.wpBs1 KO rfl _ rfl x rfl ?_) | (at_builtin; refine Ek.wpApp KO rfl _ _ rfl _ L rfl (J2.out.1.ox.below ((Below.refl _ _).alloc (Nat.le_refl _) _)) ⟨_, 0, none⟩ 1 1 [x] rfl rfl (one_newX _ x) (by have := LZ.out; have := HN.out; show (L.length + 1) * 24 ≤ _; omega) (by have := LZ.out; have := HN.out; unfold maxLen; omega) ?_; intro v' W4 o4 on4; obtain ⟨ao4, co4, rfl⟩ := o4.form; have J4 := hide (J2.out.1.app _ o4 on4); clear o4 on4))
        refine ⟨⟨k + 1, ao4, co4, L ++ [x], n2, e2, KX.out.1, by go_num, by simp, J4.out, ⟨by rw [List.length_append, HN.out, J.out.2.1.1]; rfl, fun y hy => ?_⟩, J2.out.2.2⟩, by simpa [intOf] using KX.out.2⟩
        rcases List.mem_append.1 hy with q | q
        · exact J.out.2.1.2 y q
        · rw [List.mem_singleton.1 q]; exact J2.out.2.1
      · have hne : (e1 != 0) = true := by simp [he]
        have NE := hide he
        have KC := hide (show k ≤ c by omega)
        clear he hk hlt h5
        go_wp2_with (go_at_call 34; refine (HE.out _ _ _ J.out.1.rd).mono ?_; rintro r W2 ⟨rfl, rfl⟩)
        go_ret
        exact ⟨[], none, 0, n1, e1, rfl, OX.nil _, (fun g hg => by cases hg), ⟨Nat.zero_le _, fun x hx => by cases hx⟩, J.out.1.rd, J.out.1.px.fr, T1.out.left J.out.2.2 KC.out NE.out⟩
    · have h1 : ¬ (k : Int) < (c : Int) := by omega
      have hkc : k = c := by omega
      subst hkc
      clear hk hlt
      go_wp2
      go_ret
      exact ⟨L, ao, co, rfl, J.out.1.ox, J.out.1.far, ⟨by rw [J.out.2.1.1]; exact CM.out, J.out.2.1.2⟩, n1, e1, J.out.1.rd, J.out.1.px.fr, T1.out.list J.out.2.2⟩
end
end Go.Proofs.Ytkbfcfmjbgnhcaa
