/- The law SipClashes: its walk. -/
import Derived.Test.YtpjpnkohagcegaaYm
import Derived.Test.YtpjpnkohagcegaaYi
namespace Go.Proofs.Ytpjpnkohagcegaa
open Go.RowKit
open Go.Deep
open Go.Maps
/-- What is known of the world in SipClashes. -/
structure Jk (w W : World) (k0 k1 : UInt64) : Prop where
  ka : W.heap[w.heap.size]? = some (.cells (qc [k0, k1]) 24 (0, 0))
  below : Below w.heap.size w W
theorem Jk.next {w W W' : World} {k0 k1 : UInt64} (j : Jk w W k0 k1) (h : Below W.heap.size W W') : Jk w W' k0 k1 :=
  ⟨(h.block _ (lt_heap j.ka)).trans j.ka, j.below.trans (h.mono j.below.size)⟩
/-- The answer is still ahead, when a and b are looked at. -/
def Pre (id : Nat → List UInt8) (sh : Nat → Nat) (m : Nat) (x y : Int) (c : Bool) (a b : Nat) : Prop :=
  (c = true → ∃ a0 b0 : Nat, x = a0 ∧ y = b0 ∧ First id sh m a0 b0 ∧ (b < b0 ∨ (b = b0 ∧ a ≤ a0))) ∧ (c = false → x = 0 ∧ y = 0 ∧ Calm id sh m)
section
variable {id : Nat → List UInt8} {sh : Nat → Nat} {m : Nat} {x y : Int} {c : Bool} {a b : Nat}
theorem Pre.start (h : ClashIs id sh m x y c) : Pre id sh m x y c 0 0 := by
  rcases h with ⟨rfl, hx, hy, hc⟩ | ⟨rfl, a0, b0, hx, hy, hf⟩
  · exact ⟨fun e => (by cases e), fun _ => ⟨hx, hy, hc⟩⟩
  · exact ⟨fun _ => ⟨a0, b0, hx, hy, hf, by have := hf.ab; omega⟩, fun e => by cases e⟩
theorem Pre.bad (h : Pre id sh m x y c a b) (hab : a < b) (hb : b < m) (hn : id a ≠ id b) (hs : sh a = sh b) : c = true ∧ x = a ∧ y = b := by
  cases c with
  | false => exact absurd ((h.2 rfl).2.2 b hb a hab hs) hn
  | true =>
    obtain ⟨a0, b0, rfl, rfl, hf, h1 | ⟨rfl, h1⟩⟩ := h.1 rfl
    · exact absurd (hf.calm b h1 a hab hs) hn
    · rcases Nat.lt_or_ge a a0 with h2 | h2
      · exact absurd (hf.least a h2 hs) hn
      · have : a = a0 := by omega
        subst this
        exact ⟨rfl, rfl, rfl⟩
theorem Pre.step (h : Pre id sh m x y c a b) (hn : ¬ (id a ≠ id b ∧ sh a = sh b)) : Pre id sh m x y c (a + 1) b := by
  refine ⟨fun hc => ?_, h.2⟩
  obtain ⟨a0, b0, hx, hy, hf, h1 | ⟨rfl, h1⟩⟩ := h.1 hc
  · exact ⟨a0, b0, hx, hy, hf, .inl h1⟩
  · refine ⟨a0, b, hx, hy, hf, .inr ⟨rfl, ?_⟩⟩
    rcases Nat.lt_or_ge a a0 with h2 | h2
    · omega
    · have : a = a0 := by omega
      subst this
      exact absurd ⟨hf.ne, hf.eq⟩ hn
theorem Pre.turn (h : Pre id sh m x y c b b) : Pre id sh m x y c 0 (b + 1) := by
  refine ⟨fun hc => ?_, h.2⟩
  obtain ⟨a0, b0, hx, hy, hf, h1 | ⟨rfl, h1⟩⟩ := h.1 hc
  · exact ⟨a0, b0, hx, hy, hf, by omega⟩
  · have := hf.ab
    omega
theorem Pre.done (h : Pre id sh m x y c 0 m) : c = false ∧ x = 0 ∧ y = 0 := by
  cases c with
  | false => exact ⟨rfl, (h.2 rfl).1, (h.2 rfl).2.1⟩
  | true =>
    obtain ⟨a0, b0, hx, hy, hf, h1⟩ := h.1 rfl
    have := hf.bn
    omega
end
theorem eqne (l r : List UInt8) (hl : l.length = 32) (hr : r.length = 32) (h : l ≠ r) (W : World) : (Op.equalIn 10000 40 (.agg (hc l)) (.agg (hc r))).run Try.prog W = .ok false W := by
  have e := run_equalIn_bytes (P := Try.prog) W 9998 40 5 32 Try.underlying40 Try.underlying5 size5 l r hl hr
  rw [show (l == r) = false from by simpa using h] at e
  exact e
def ldh (x : Value) : Sem Value := Instr.loadAt 40 x
theorem ldh_eq (x : Value) : Instr.loadAt 40 x = ldh x := rfl
attribute [local go_sem ↓] ldh_eq
section
set_option maxRecDepth 10000
set_option maxHeartbeats 4000000
theorem sipClashes_walk (k0 k1 : UInt64) (ao : Option Addr) (n cap : Nat) (id : Nat → List UInt8) (w : World) (hcap : n ≤ cap) (hcm : cap ≤ 9223372036854775807) (hp : Ids w ao n id) : Calls Try.prog 4 #[.agg (qc [k0, k1]), .slice ao n cap] w fun e w' => e = .returned (.bool true) ∧ Below w.heap.size w w' := by
  have HA := hide fun W => awake_any6 W
  have JW : Hid (Jk w (w.alloc (.cells (qc [k0, k1]) 24)) k0 k1) := ⟨heap_alloc_last _ _, (Below.refl w.heap.size w).alloc (Nat.le_refl _) _⟩
  have HKA := hide JW.out.ka
  have HP := hide hp
  clear hp
  by_cases h60 : (60 : Int) < n
  · have c60 : (60 : Int) ≤ cap := by omega
    go_enter Try.func4, Try.ntmps4
    go_upto_region 3 with (refine wpList_boxA rfl _ rfl (qc [k0, k1]) rfl ?_)
    have hm60 : 60 ≤ 60 := Nat.le_refl _
    have HPM : Hid (Ids w ao 60 id) := fun i hi => HP.out i (by omega)
    have hids : Ids (w.alloc (.cells (qc [k0, k1]) 24)) ao 60 id := fun i hi => by
      obtain ⟨h1, g, off, h2, h3, h4⟩ := HPM.out i hi
      exact ⟨h1, g, off, h2, by simp; omega, range_below h4 ((Below.refl w.heap.size w).alloc (Nat.le_refl _) _) h3⟩
    have HC := hide (clash_any k0 k1 ao 60 cap id (w.alloc (.cells (qc [k0, k1]) 24)) hm60 hids)
    clear hids
    go_upto_region 4 with (first | refine wpList_loadA AK rfl _ rfl _ rfl (qc [k0, k1]) rfl 24 HKA.out ?_ | (go_at_call 12; refine HC.out.mono ?_; rintro e w1 ⟨⟨x, y, c, rfl, hcl⟩, b1⟩; have HCL := hide hcl; have J1 := hide (JW.out.next b1); clear hcl b1))
    have P0 := hide (Pre.start HCL.out)
    have hsd : Hid (∀ i, (fun i => shN k0 k1 (id i)) i = shN k0 k1 (id i)) := fun _ => rfl
    generalize (fun i => shN k0 k1 (id i)) = sh at *
    clear HCL HC HKA JW
    go_wp2
    go_loopw [8, 9] (fun vb _ wr => ∃ b : Nat, b ≤ 60 ∧ vb = .int .i64 b ∧ Hid (Jk w wr k0 k1) ∧ Hid (Pre id sh 60 x y c 0 b)) (fun vb _ _ => (60 - intOf vb).toNat)
    case atStart => exact ⟨0, by omega, rfl, J1, P0⟩
    case round =>
      clear J1 P0
      obtain ⟨b, hb, rfl, J, P⟩ := hrel
      by_cases hlt : b < 60
      · have b0 : (b : Int) < 60 := by omega
        go_wp2
        go_loopw [9] (fun va wx => ∃ a : Nat, a ≤ b ∧ va = .int .i64 a ∧ Hid (Jk w wx k0 k1) ∧ Hid (Pre id sh 60 x y c a b)) (fun va _ => (b - intOf va).toNat)
        case atStart => exact ⟨0, by omega, rfl, J, P⟩
        case round =>
          clear J P
          obtain ⟨a, ha, rfl, J, P⟩ := hrel
          by_cases hab : a < b
          · obtain ⟨la, g, off, rfl, hg, ra⟩ := HPM.out a (by omega)
            obtain ⟨lb, g', off', hao, hg', rb⟩ := HPM.out b hlt
            obtain ⟨rfl, rfl⟩ : g = g' ∧ off = off' := by simpa using hao
            have i0 : (0 : Int) ≤ a := by omega
            have i1 : (a : Int) < 60 := by omega
            have i2 : (0 : Int) ≤ b := by omega
            have i3 : (a : Int) < b := by omega
            have SA := hide fun W => rshort_any k0 k1 (id a) la W
            have SB := hide fun W => rshort_any k0 k1 (id b) lb W
            rw [← hsd.out a] at SA
            rw [← hsd.out b] at SB
            have hr1 := hide ra
            have hr2 := hide rb
            have hbad : Hid (id a ≠ id b → sh a = sh b → c = true ∧ x = a ∧ y = b) := fun h1 h2 => P.out.bad hab hlt h1 h2
            have hstep : Hid (¬ (id a ≠ id b ∧ sh a = sh b) → Pre id sh 60 x y c (a + 1) b) := fun h1 => P.out.step h1
            clear ra rb P hao
            go_upto_region 10 with fail
            obtain ⟨I, hne, Fw, i0', h0, hJ, hcl⟩ : ∃ (I : Type) (_ : Nonempty I) (Fw : I → World) (i0 : I), wr.drew = Fw i0 ∧ Hid (∀ i, Jk w (Fw i) k0 k1) ∧ Hid (∀ i W', Below (Fw i).heap.size (Fw i) W' → ∃ j, W' = Fw j) :=
              ⟨{W : World // Jk w W k0 k1}, ⟨⟨_, J.out⟩⟩, Subtype.val, ⟨wr.drew, J.out.ka, J.out.below.drew⟩, rfl, fun i => i.2, fun i W' b => ⟨⟨W', i.2.next b⟩, rfl⟩⟩
            have c0 : ∀ i, (Fw i).cell? ⟨w.heap.size, 0, none⟩ = some (.int .u64 (k0.toNat : Int)) := fun i => cell_of_row _ _ 0 _ _ _ (hJ.out i).ka
            have c1 : ∀ i, (Fw i).cell? ⟨w.heap.size, 1, none⟩ = some (.int .u64 (k1.toNat : Int)) := fun i => cell_of_row _ _ 1 _ _ _ (hJ.out i).ka
            have l1 : ∀ i, (ldh (.pointer (some ⟨g, off + a * 32, none⟩))).run Try.prog (Fw i) = .ok (.agg (hc (id a))) (Fw i) := fun i => ld_mid la (range_below hr1.out (hJ.out i).below hg)
            have l2 : ∀ i, (ldh (.pointer (some ⟨g, off + b * 32, none⟩))).run Try.prog (Fw i) = .ok (.agg (hc (id b))) (Fw i) := fun i => ld_mid lb (range_below hr2.out (hJ.out i).below hg)
            by_cases hid : id a = id b
            · have he := hide fun W => eqb 40 32 Try.underlying40 (id b) lb W
              rw [hid] at l1
              have hstep' : Hid (Pre id sh 60 x y c (a + 1) b) := hstep.out (fun h => h.1 hid)
              clear hbad hstep hid SA SB
              generalize hc (id b) = LB at *
              refine wp_region_class_lit (by kernel_rfl) (by kernel_rfl) i0' h0 ?_
              repeat (first | (go_big_quiet_want; refine quiet_neq 40 _ _ _ (by rfl) LB LB (by rfl) (by rfl) eqg25 true he.out ?_; go_big_quiet_on; simp only [Act.put, List.setIfInBounds_toArray, List.set_cons_succ, List.set_cons_zero, Bool.not_true]) | go_big_quiet_step (fail))
              refine wpQuiet_nil ?_
              rintro _ ⟨iq, rfl⟩
              have JQ := hide (hJ.out iq)
              clear c0 c1 h0 hJ hcl l1 l2
              generalize Fw iq = W6 at *
              go_wp2
              exact ⟨⟨a + 1, by omega, by go_num, JQ, hstep'⟩, by simp [intOf]; omega⟩
            · have he := hide fun W => eqne (id a) (id b) la lb hid W
              by_cases hs : sh a = sh b
              · have hb2 := hbad.out hid hs
                obtain ⟨rfl, rfl, rfl⟩ := hb2
                have hs' : ((sh a : Int) == (sh b : Int)) = true := by rw [hs]; simp
                clear hbad hstep hid
                generalize hc (id a) = LA at *
                generalize hc (id b) = LB at *
                refine wp_region_class_lit (by kernel_rfl) (by kernel_rfl) i0' h0 ?_
                repeat (first | (go_big_quiet_want; refine quiet_neq 40 _ _ _ (by rfl) LA LB (by rfl) (by rfl) eqg25 false he.out ?_; go_big_quiet_on; simp only [Act.put, List.setIfInBounds_toArray, List.set_cons_succ, List.set_cons_zero, Bool.not_false]) | go_big_quiet_step (first | (go_at_call_of 13 (Value.agg LA); exact class_of hcl.out (SA.out _)) | (go_at_call_of 13 (Value.agg LB); exact class_of hcl.out (SB.out _))))
                refine wpQuiet_nil ?_
                rintro _ ⟨iq, rfl⟩
                have JQ := hide (hJ.out iq)
                clear c0 c1 h0 hJ hcl l1 l2
                generalize Fw iq = W6 at *
                go_wp2_with (go_at_call 7; refine (HA.out _).mono ?_; rintro e w7 ⟨rfl, b7⟩; have J7 := hide (JQ.out.next b7); clear b7)
                go_ret
                exact ⟨rfl, J7.out.below⟩
              · have hstep' : Hid (Pre id sh 60 x y c (a + 1) b) := hstep.out (fun h => hs h.2)
                have hs' : ((sh a : Int) == (sh b : Int)) = false := by simp; omega
                clear hbad hstep hid hs
                generalize hc (id a) = LA at *
                generalize hc (id b) = LB at *
                refine wp_region_class_lit (by kernel_rfl) (by kernel_rfl) i0' h0 ?_
                repeat (first | (go_big_quiet_want; refine quiet_neq 40 _ _ _ (by rfl) LA LB (by rfl) (by rfl) eqg25 false he.out ?_; go_big_quiet_on; simp only [Act.put, List.setIfInBounds_toArray, List.set_cons_succ, List.set_cons_zero, Bool.not_false]) | go_big_quiet_step (first | (go_at_call_of 13 (Value.agg LA); exact class_of hcl.out (SA.out _)) | (go_at_call_of 13 (Value.agg LB); exact class_of hcl.out (SB.out _))))
                refine wpQuiet_nil ?_
                rintro _ ⟨iq, rfl⟩
                have JQ := hide (hJ.out iq)
                clear c0 c1 h0 hJ hcl l1 l2
                generalize Fw iq = W6 at *
                go_wp2
                exact ⟨⟨a + 1, by omega, by go_num, JQ, hstep'⟩, by simp [intOf]; omega⟩
          · have hae : a = b := by omega
            subst hae
            go_wp2
            exact ⟨⟨a + 1, by omega, by go_num, J, hide P.out.turn⟩, by simp [intOf]; omega⟩
      · have hbe : b = 60 := by omega
        subst hbe
        obtain ⟨rfl, rfl, rfl⟩ := P.out.done
        go_wp2_with (go_at_call 7; refine (HA.out _).mono ?_; rintro e w7 ⟨rfl, b7⟩; have J7 := hide (J.out.next b7); clear b7)
        go_ret
        exact ⟨rfl, J7.out.below⟩
  · go_enter Try.func4, Try.ntmps4
    go_upto_region 3 with (refine wpList_boxA rfl _ rfl (qc [k0, k1]) rfl ?_)
    have hm60 : n ≤ 60 := by omega
    have HPM : Hid (Ids w ao n id) := HP
    have hids : Ids (w.alloc (.cells (qc [k0, k1]) 24)) ao n id := fun i hi => by
      obtain ⟨h1, g, off, h2, h3, h4⟩ := HPM.out i hi
      exact ⟨h1, g, off, h2, by simp; omega, range_below h4 ((Below.refl w.heap.size w).alloc (Nat.le_refl _) _) h3⟩
    have HC := hide (clash_any k0 k1 ao n cap id (w.alloc (.cells (qc [k0, k1]) 24)) hm60 hids)
    clear hids
    go_upto_region 4 with (first | refine wpList_loadA AK rfl _ rfl _ rfl (qc [k0, k1]) rfl 24 HKA.out ?_ | (go_at_call 12; refine HC.out.mono ?_; rintro e w1 ⟨⟨x, y, c, rfl, hcl⟩, b1⟩; have HCL := hide hcl; have J1 := hide (JW.out.next b1); clear hcl b1))
    have P0 := hide (Pre.start HCL.out)
    have hsd : Hid (∀ i, (fun i => shN k0 k1 (id i)) i = shN k0 k1 (id i)) := fun _ => rfl
    generalize (fun i => shN k0 k1 (id i)) = sh at *
    clear HCL HC HKA JW
    go_wp2
    go_loopw [8, 9] (fun vb _ wr => ∃ b : Nat, b ≤ n ∧ vb = .int .i64 b ∧ Hid (Jk w wr k0 k1) ∧ Hid (Pre id sh n x y c 0 b)) (fun vb _ _ => (n - intOf vb).toNat)
    case atStart => exact ⟨0, by omega, rfl, J1, P0⟩
    case round =>
      clear J1 P0
      obtain ⟨b, hb, rfl, J, P⟩ := hrel
      by_cases hlt : b < n
      · have b0 : (b : Int) < n := by omega
        go_wp2
        go_loopw [9] (fun va wx => ∃ a : Nat, a ≤ b ∧ va = .int .i64 a ∧ Hid (Jk w wx k0 k1) ∧ Hid (Pre id sh n x y c a b)) (fun va _ => (b - intOf va).toNat)
        case atStart => exact ⟨0, by omega, rfl, J, P⟩
        case round =>
          clear J P
          obtain ⟨a, ha, rfl, J, P⟩ := hrel
          by_cases hab : a < b
          · obtain ⟨la, g, off, rfl, hg, ra⟩ := HPM.out a (by omega)
            obtain ⟨lb, g', off', hao, hg', rb⟩ := HPM.out b hlt
            obtain ⟨rfl, rfl⟩ : g = g' ∧ off = off' := by simpa using hao
            have i0 : (0 : Int) ≤ a := by omega
            have i1 : (a : Int) < n := by omega
            have i2 : (0 : Int) ≤ b := by omega
            have i3 : (a : Int) < b := by omega
            have SA := hide fun W => rshort_any k0 k1 (id a) la W
            have SB := hide fun W => rshort_any k0 k1 (id b) lb W
            rw [← hsd.out a] at SA
            rw [← hsd.out b] at SB
            have hr1 := hide ra
            have hr2 := hide rb
            have hbad : Hid (id a ≠ id b → sh a = sh b → c = true ∧ x = a ∧ y = b) := fun h1 h2 => P.out.bad hab hlt h1 h2
            have hstep : Hid (¬ (id a ≠ id b ∧ sh a = sh b) → Pre id sh n x y c (a + 1) b) := fun h1 => P.out.step h1
            clear ra rb P hao
            go_upto_region 10 with fail
            obtain ⟨I, hne, Fw, i0', h0, hJ, hcl⟩ : ∃ (I : Type) (_ : Nonempty I) (Fw : I → World) (i0 : I), wr.drew = Fw i0 ∧ Hid (∀ i, Jk w (Fw i) k0 k1) ∧ Hid (∀ i W', Below (Fw i).heap.size (Fw i) W' → ∃ j, W' = Fw j) :=
              ⟨{W : World // Jk w W k0 k1}, ⟨⟨_, J.out⟩⟩, Subtype.val, ⟨wr.drew, J.out.ka, J.out.below.drew⟩, rfl, fun i => i.2, fun i W' b => ⟨⟨W', i.2.next b⟩, rfl⟩⟩
            have c0 : ∀ i, (Fw i).cell? ⟨w.heap.size, 0, none⟩ = some (.int .u64 (k0.toNat : Int)) := fun i => cell_of_row _ _ 0 _ _ _ (hJ.out i).ka
            have c1 : ∀ i, (Fw i).cell? ⟨w.heap.size, 1, none⟩ = some (.int .u64 (k1.toNat : Int)) := fun i => cell_of_row _ _ 1 _ _ _ (hJ.out i).ka
            have l1 : ∀ i, (ldh (.pointer (some ⟨g, off + a * 32, none⟩))).run Try.prog (Fw i) = .ok (.agg (hc (id a))) (Fw i) := fun i => ld_mid la (range_below hr1.out (hJ.out i).below hg)
            have l2 : ∀ i, (ldh (.pointer (some ⟨g, off + b * 32, none⟩))).run Try.prog (Fw i) = .ok (.agg (hc (id b))) (Fw i) := fun i => ld_mid lb (range_below hr2.out (hJ.out i).below hg)
            by_cases hid : id a = id b
            · have he := hide fun W => eqb 40 32 Try.underlying40 (id b) lb W
              rw [hid] at l1
              have hstep' : Hid (Pre id sh n x y c (a + 1) b) := hstep.out (fun h => h.1 hid)
              clear hbad hstep hid SA SB
              generalize hc (id b) = LB at *
              refine wp_region_class_lit (by kernel_rfl) (by kernel_rfl) i0' h0 ?_
              repeat (first | (go_big_quiet_want; refine quiet_neq 40 _ _ _ (by rfl) LB LB (by rfl) (by rfl) eqg25 true he.out ?_; go_big_quiet_on; simp only [Act.put, List.setIfInBounds_toArray, List.set_cons_succ, List.set_cons_zero, Bool.not_true]) | go_big_quiet_step (fail))
              refine wpQuiet_nil ?_
              rintro _ ⟨iq, rfl⟩
              have JQ := hide (hJ.out iq)
              clear c0 c1 h0 hJ hcl l1 l2
              generalize Fw iq = W6 at *
              go_wp2
              exact ⟨⟨a + 1, by omega, by go_num, JQ, hstep'⟩, by simp [intOf]; omega⟩
            · have he := hide fun W => eqne (id a) (id b) la lb hid W
              by_cases hs : sh a = sh b
              · have hb2 := hbad.out hid hs
                obtain ⟨rfl, rfl, rfl⟩ := hb2
                have hs' : ((sh a : Int) == (sh b : Int)) = true := by rw [hs]; simp
                clear hbad hstep hid
                generalize hc (id a) = LA at *
                generalize hc (id b) = LB at *
                refine wp_region_class_lit (by kernel_rfl) (by kernel_rfl) i0' h0 ?_
                repeat (first | (go_big_quiet_want; refine quiet_neq 40 _ _ _ (by rfl) LA LB (by rfl) (by rfl) eqg25 false he.out ?_; go_big_quiet_on; simp only [Act.put, List.setIfInBounds_toArray, List.set_cons_succ, List.set_cons_zero, Bool.not_false]) | go_big_quiet_step (first | (go_at_call_of 13 (Value.agg LA); exact class_of hcl.out (SA.out _)) | (go_at_call_of 13 (Value.agg LB); exact class_of hcl.out (SB.out _))))
                refine wpQuiet_nil ?_
                rintro _ ⟨iq, rfl⟩
                have JQ := hide (hJ.out iq)
                clear c0 c1 h0 hJ hcl l1 l2
                generalize Fw iq = W6 at *
                go_wp2_with (go_at_call 7; refine (HA.out _).mono ?_; rintro e w7 ⟨rfl, b7⟩; have J7 := hide (JQ.out.next b7); clear b7)
                go_ret
                exact ⟨rfl, J7.out.below⟩
              · have hstep' : Hid (Pre id sh n x y c (a + 1) b) := hstep.out (fun h => hs h.2)
                have hs' : ((sh a : Int) == (sh b : Int)) = false := by simp; omega
                clear hbad hstep hid hs
                generalize hc (id a) = LA at *
                generalize hc (id b) = LB at *
                refine wp_region_class_lit (by kernel_rfl) (by kernel_rfl) i0' h0 ?_
                repeat (first | (go_big_quiet_want; refine quiet_neq 40 _ _ _ (by rfl) LA LB (by rfl) (by rfl) eqg25 false he.out ?_; go_big_quiet_on; simp only [Act.put, List.setIfInBounds_toArray, List.set_cons_succ, List.set_cons_zero, Bool.not_false]) | go_big_quiet_step (first | (go_at_call_of 13 (Value.agg LA); exact class_of hcl.out (SA.out _)) | (go_at_call_of 13 (Value.agg LB); exact class_of hcl.out (SB.out _))))
                refine wpQuiet_nil ?_
                rintro _ ⟨iq, rfl⟩
                have JQ := hide (hJ.out iq)
                clear c0 c1 h0 hJ hcl l1 l2
                generalize Fw iq = W6 at *
                go_wp2
                exact ⟨⟨a + 1, by omega, by go_num, JQ, hstep'⟩, by simp [intOf]; omega⟩
          · have hae : a = b := by omega
            subst hae
            go_wp2
            exact ⟨⟨a + 1, by omega, by go_num, J, hide P.out.turn⟩, by simp [intOf]; omega⟩
      · have hbe : b = n := by omega
        subst hbe
        obtain ⟨rfl, rfl, rfl⟩ := P.out.done
        go_wp2_with (go_at_call 7; refine (HA.out _).mono ?_; rintro e w7 ⟨rfl, b7⟩; have J7 := hide (J.out.next b7); clear b7)
        go_ret
        exact ⟨rfl, J7.out.below⟩
end
end Go.Proofs.Ytpjpnkohagcegaa
