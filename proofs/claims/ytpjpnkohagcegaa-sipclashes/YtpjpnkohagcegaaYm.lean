/- The contract of Clash. -/
import Derived.Test.YtpjpnkohagcegaaYl
namespace Go.Proofs.Ytpjpnkohagcegaa
open Go.RowKit
open Go.Deep
open Go.Maps
/-- Where ids lie. -/
def Ids (w : World) (ao : Option Addr) (n : Nat) (id : Nat → List UInt8) : Prop := ∀ i, i < n → (id i).length = 32 ∧ ∃ g off, ao = some ⟨g, off, none⟩ ∧ g < w.heap.size ∧ w.rangeAt g (off + i * 32) (cellsL (id i))
theorem range_below {w W : World} {B g off : Nat} {cs : List Value} (hr : w.rangeAt g off cs) (hb : Below B w W) (hg : g < B) : W.rangeAt g off cs := fun j v hv => by
  have := hr j v hv
  rw [← this]
  exact hb.cell (p := ⟨g, off + j, none⟩) hg
theorem ld_mid {W : World} {g off : Nat} {l : List UInt8} (hl : l.length = 32) (hr : W.rangeAt g off (cellsL l)) : (Instr.loadAt 40 (.pointer (some ⟨g, off, none⟩))).run Try.prog W = .ok (.agg (hc l)) W :=
  run_loadAt_mid W g off 40 _ _ hr Try.underlying40 rfl (by rw [A25.info, cellsL_len, hl])
/-- The load of an id out of a list of ids. -/
theorem wpList_loadM {w : World} {ops : Array Oper} {rest : List Oper} {o : Oper} {a : Act} {Q : Exit → Act → World → Prop} (hgd : o.guard = none) (x : Operand) (ho : o.op = .load 40 x) (g off : Nat) (hx : a.eval x = .pointer (some ⟨g, off, none⟩)) (l : List UInt8) (hl : l.length = 32) (hr : w.rangeAt g off (cellsL l))
    (h : wpList Try.prog ops Q rest (a.put o.dst (.agg (hc l))) w) : wpList Try.prog ops Q (o :: rest) a w := by
  refine wpList_plain hgd fun K hK => ?_
  unfold Oper.wp execOp
  simp only [ho, hx, Sem.run_bind, ld_mid hl hr, Result.andThen_ok, Sem.run_pure]
  exact hK _ _ h
/-- What is known of the world in Clash: the keys, and the two maps. -/
structure Jc (w W : World) (k0 k1 : UInt64) (n : Nat) (D1 D2 : DataW Unit) : Prop where
  ka : W.heap[w.heap.size]? = some (.cells (qc [k0, k1]) 24 (0, 0))
  met : W.ownsMap Try.prog 40 unitElem (w.heap.size + 1) n D1
  fst : W.ownsMap Try.prog 22 (plainElem Try.prog 3) (w.heap.size + 2) n D2
  below : Below w.heap.size w W
theorem grown_below {W W' : World} (h : Below W.heap.size W W') : W.grownBy W' none := ⟨h.os, h.tape, h.output, h.size, fun k hk _ => h.block k hk⟩
theorem Jc.next {w W W' : World} {k0 k1 : UInt64} {n : Nat} {D1 D2 : DataW Unit} (j : Jc w W k0 k1 n D1 D2) (h : Below W.heap.size W W') : Jc w W' k0 k1 n D1 D2 :=
  ⟨(h.block _ (lt_heap j.ka)).trans j.ka, j.met.kept (grown_below h) (by simp), j.fst.kept (grown_below h) (by simp), j.below.trans (h.mono j.below.size)⟩
theorem Jc.mono {w W : World} {k0 k1 : UInt64} {n m : Nat} {D1 D2 : DataW Unit} (j : Jc w W k0 k1 n D1 D2) (h : n ≤ m) : Jc w W k0 k1 m D1 D2 :=
  ⟨j.ka, j.met.mono h, j.fst.mono h, j.below⟩
theorem below_grown {w W W' : World} {g : Nat} (h : Below w.heap.size w W) (hg : W.grownBy W' (some g)) (hle : w.heap.size ≤ g) : Below w.heap.size w W' :=
  h.trans ⟨hg.os, hg.tape, hg.output, hg.size, fun k hk => hg.block k (Nat.lt_of_lt_of_le hk h.size) (by intro e; cases e; omega)⟩
theorem Jc.put1 {w W W' : World} {k0 k1 : UInt64} {n : Nat} {D1 D2 D3 : DataW Unit} (j : Jc w W k0 k1 n D1 D2) (h : W'.ownsMap Try.prog 40 unitElem (w.heap.size + 1) (n + 1) D3) (hg : W.grownBy W' (some (w.heap.size + 1))) : Jc w W' k0 k1 (n + 1) D3 D2 :=
  ⟨(hg.block _ (lt_heap j.ka) (by simp)).trans j.ka, h, (j.fst.kept hg (by simp)).mono (by omega), below_grown j.below hg (by omega)⟩
theorem Jc.put2 {w W W' : World} {k0 k1 : UInt64} {n : Nat} {D1 D2 D3 : DataW Unit} (j : Jc w W k0 k1 n D1 D2) (h : W'.ownsMap Try.prog 22 (plainElem Try.prog 3) (w.heap.size + 2) (n + 1) D3) (hg : W.grownBy W' (some (w.heap.size + 2))) : Jc w W' k0 k1 (n + 1) D1 D3 :=
  ⟨(hg.block _ (lt_heap j.ka) (by simp)).trans j.ka, (j.met.kept hg (by simp)).mono (by omega), h, below_grown j.below hg (by omega)⟩
/-- What Clash answers. -/
def ClashIs (id : Nat → List UInt8) (sh : Nat → Nat) (n : Nat) (x y : Int) (c : Bool) : Prop := (c = false ∧ x = 0 ∧ y = 0 ∧ Calm id sh n) ∨ (c = true ∧ ∃ a b : Nat, x = a ∧ y = b ∧ First id sh n a b)
theorem wf64 (s : Nat) (h : s < 18446744073709551616) : (Lit.int .u64 (s : Int)).wf = true := by
  simp [Lit.wf, IntKind.min, IntKind.max, IntKind.signed, IntKind.bits]
  omega
theorem wfi64 (s : Nat) (h : s < 9223372036854775808) : (Lit.int .i64 (s : Int)).wf = true := by
  simp [Lit.wf, IntKind.min, IntKind.max, IntKind.signed, IntKind.bits]
  omega
theorem make_some (t k e : TypeId) (ht : Try.prog.underlying t = some (.map k e)) (n : Int) (w : World) : (Instr.makeMap t (some (.int .i64 n))).run Try.prog w = .ok (.map (some w.heap.size)) (w.alloc (.map #[] 0)) := by
  unfold Instr.makeMap
  simp [run_underlying ht, asInt, newObj]
  rfl
section
set_option maxRecDepth 10000
set_option maxHeartbeats 4000000
theorem clash_any (k0 k1 : UInt64) (ao : Option Addr) (n cap : Nat) (id : Nat → List UInt8) (w : World) (hn : n ≤ 60) (hp : Ids w ao n id) : Calls Try.prog 12 #[.agg (qc [k0, k1]), .slice ao n cap] w fun e w' => (∃ x y c, e = .returned (.tuple #[.int .i64 x, .int .i64 y, .bool c]) ∧ ClashIs id (fun i => shN k0 k1 (id i)) n x y c) ∧ Below w.heap.size w w' := by
  have HP := hide hp
  clear hp
  have m1 := make_some 54 40 56 Try.underlying54
  have m2 := make_some 55 22 3 Try.underlying55
  go_enter Try.func12, Try.ntmps12
  go_wp2_with (first | refine wpList_boxA rfl _ rfl (qc [k0, k1]) rfl ?_)
  have J0 : Hid (Jc w (((w.alloc (.cells (qc [k0, k1]) 24)).alloc (.map #[] 0)).alloc (.map #[] 0)) k0 k1 0 (.map []) (.map [])) := by
    obtain ⟨e0, e1, e2⟩ := blk3 w (.cells (qc [k0, k1]) 24) (.map #[] 0) (.map #[] 0)
    have o1 := World.ownsMap_made (H := Unit) (w.alloc (.cells (qc [k0, k1]) 24)) Try.prog 40 unitElem
    have o2 := World.ownsMap_made (H := Unit) ((w.alloc (.cells (qc [k0, k1]) 24)).alloc (.map #[] 0)) Try.prog 22 (plainElem Try.prog 3)
    have s1 : (w.alloc (.cells (qc [k0, k1]) 24)).heap.size = w.heap.size + 1 := by simp
    have s2 : ((w.alloc (.cells (qc [k0, k1]) 24)).alloc (.map #[] 0)).heap.size = w.heap.size + 2 := by simp
    rw [s1] at o1
    rw [s2] at o2
    exact ⟨e0, o1.alloc _, o2, below3 w _ _ _⟩
  have z1 := hide (MetD.zero id)
  have z2 := hide (FstD.zero (fun i => shN k0 k1 (id i)))
  generalize ((w.alloc (.cells (qc [k0, k1]) 24)).alloc (.map #[] 0)).alloc (.map #[] 0) = W0 at *
  have hsf : Hid (∀ i j, id i = id j → (fun i => shN k0 k1 (id i)) i = (fun i => shN k0 k1 (id i)) j) := fun i j e => by show shN k0 k1 (id i) = shN k0 k1 (id j); rw [e]
  have hsd : Hid (∀ i, (fun i => shN k0 k1 (id i)) i = shN k0 k1 (id i)) := fun _ => rfl
  generalize hsh : (fun i => shN k0 k1 (id i)) = sh at *
  have HSH := hide hsh
  clear hsh
  go_loopw [9, 10, 11, 12, 13, 14, 15, 24] (fun _ _ _ _ _ _ _ c wr => ∃ (k : Nat) (D1 D2 : DataW Unit), k ≤ n ∧ c = .int .i64 k ∧ Hid (Jc w wr k0 k1 (2 * k) D1 D2) ∧ Hid (MetD id k D1) ∧ Hid (FstD sh k D2) ∧ Hid (Calm id sh k)) (fun _ _ _ _ _ _ _ c _ => (n - intOf c).toNat)
  case atStart => exact ⟨0, _, _, by omega, rfl, J0, z1, z2, fun b hb => by omega⟩
  case round =>
    clear J0 z1 z2
    obtain ⟨k, D1, D2, hk, rfl, J, hM, hF, hC⟩ := hrel
    by_cases hlt : k < n
    · obtain ⟨hl, g, off, rfl, hg, hr⟩ := HP.out k hlt
      have k0' : (0 : Int) ≤ k := by omega
      have k1' : (k : Int) < n := by omega
      have hR := hide (range_below hr J.out.below hg)
      have HS := hide fun W => short_any k0 k1 (id k) hl W
      rw [← hsd.out k] at HS
      have hslt : sh k < 281474976710656 := by rw [hsd.out]; exact shN_lt _ _ _
      have hkey := keyH (id k) hl
      clear hr
      generalize hL : id k = L at *
      have HL := hide hL
      clear hL
      go_upto_region 6 with (first | refine wpList_loadM rfl _ rfl g (off + k * 32) rfl L hl hR.out ?_ | refine wpList_allocA A25 rfl rfl ?_ | refine wpList_store_newA A25 rfl _ _ rfl _ rfl (hc L) (by rw [hc_size, hl]) (hc_one _) rfl rfl ?_)
      have hI := hide (heap_alloc_last wr (.cells (hc L) 40))
      have J1 := hide (J.out.next ((Below.refl wr.heap.size wr).alloc (Nat.le_refl _) (.cells (hc L) 40)))
      generalize wr.alloc (.cells (hc L) 40) = W1 at *
      generalize wr.heap.size = gI at *
      clear J hR
      have b1 : Hid (Below W1.heap.size W1 (W1.alloc (.cells #[] 56))) := (Below.refl W1.heap.size W1).alloc (Nat.le_refl _) (.cells #[] 56)
      have J2 := hide (J1.out.next b1.out)
      have hI2 := hide ((b1.out.block _ (lt_heap hI.out)).trans hI.out)
      by_cases hm : ∃ j, j < k ∧ id j = L
      · have h1 : Maps.has D1 (.string L) = true := (hM.out L).2 hm
        go_upto_region 7 with (first | refine wpList_loadA A25 rfl _ rfl _ rfl (hc L) (by rw [hc_size, hl]) 40 hI.out ?_ | (at_lookup; refine wpList_lookup_own_unit _ rfl _ _ 54 rfl 40 56 lawH Try.underlying54 (zeroS _) (w.heap.size + 1) (2 * k) D1 rfl J1.out.met _ _ rfl hkey ?_))
        have hm' : Hid (∃ j, j < k ∧ id j = id k) := by rw [HL.out]; exact hm
        clear hm
        go_wp2
        obtain ⟨j, hj, hid⟩ := hm'.out
        exact ⟨⟨k + 1, D1, D2, by omega, by go_num, hide (J2.out.mono (by omega)), hide (hM.out.old hm'.out), hide (hF.out.old ⟨j, hj, hsf.out j k hid⟩), hide (calm_met id sh hC.out hsf.out hm'.out)⟩, by simp [intOf]; omega⟩
      · have h1 : Maps.has D1 (.string L) = false := by
          cases e : Maps.has D1 (.string L)
          · rfl
          · exact absurd ((hM.out L).1 e) hm
        go_upto_region 7 with (first | refine wpList_loadA A25 rfl _ rfl _ rfl (hc L) (by rw [hc_size, hl]) 40 hI.out ?_ | (at_lookup; refine wpList_lookup_own_unit _ rfl _ _ 54 rfl 40 56 lawH Try.underlying54 (zeroS _) (w.heap.size + 1) (2 * k) D1 rfl J1.out.met _ _ rfl hkey ?_))
        have hm' : Hid (¬ ∃ j, j < k ∧ id j = id k) := by rw [HL.out]; exact hm
        have hid1 : Hid (IsMap D1) := J2.out.met.isMap
        clear hm J1 hI b1
        generalize W1.alloc (.cells #[] 56) = W2 at *
        go_upto_region 9 with (first | refine wpList_loadA A25 rfl _ rfl _ rfl (hc L) (by rw [hc_size, hl]) 40 hI2.out ?_ | (at_mapUpdate; refine wpList_mapUpdate_own _ rfl _ _ _ 54 rfl 40 56 lawH Try.underlying54 (unitElem (H := Unit)) (w.heap.size + 1) (2 * k) D1 rfl J2.out.met (by unfold maxLen; omega) _ _ _ rfl rfl hkey _ [] unitElem_mk ?_; intro W3 ho3 hg3))
        have J3 := hide (J2.out.put1 ho3 hg3)
        have hI3 : Hid (W3.heap[gI]? = some (.cells (hc L) 40 (0, 0))) := (hg3.block _ (lt_heap hI2.out) (by intro e; cases e; obtain ⟨es, cl, he, _⟩ := J2.out.met; rw [he] at hI2; cases hI2.out)).trans hI2.out
        have hM3 : Hid (MetD id (k + 1) (D1.put (.string L) (.agg []))) := by
          have := hM.out.new hid1.out (.agg [])
          rw [HL.out] at this
          exact this
        generalize D1.put (.string L) (.agg []) = D3 at *
        have hKA := hide J3.out.ka
        clear ho3 hg3 J2 hI2 hid1 hM
        go_upto_region 10 with (first | refine wpList_loadA AK rfl _ rfl _ rfl (qc [k0, k1]) rfl 24 hKA.out ?_ | refine wpList_loadA A25 rfl _ rfl _ rfl (hc L) (by rw [hc_size, hl]) 40 hI3.out ?_ | (go_at_call 22; refine (HS.out _).mono ?_; rintro e W4 ⟨rfl, b4⟩; have J4 := hide (J3.out.next b4); clear b4))
        have hkey2 := keyOf_int_mk Try.underlying22 (wf64 (sh k) (by omega))
        have hid2 : Hid (IsMap D2) := J4.out.fst.isMap
        clear J3 hI3 hKA
        by_cases hs : ∃ j, j < k ∧ sh j = sh k
        · have h2 : Maps.has D2 (.int .u64 (sh k : Int)) = true := (hF.out.1 (sh k)).2 hs
          obtain ⟨j, hj, he, hle⟩ := least_of sh k (sh k) hs
          have hAt := hide (hF.out.2 (sh k) j hj he hle)
          have hFst : Hid (First id sh n j k) := ⟨hlt, hj, fun e => hm'.out ⟨j, hj, e⟩, he, hC.out, fun c hc e => absurd e (hle c hc)⟩
          clear hs he hle
          go_wp2_with (first | (at_lookup; refine wpList_lookup_own_ok_int _ rfl _ _ 55 rfl 22 3 .i64 lawU Try.underlying55 Try.underlying3 (zeroN _) (w.heap.size + 2) (2 * k + 1) D2 rfl J4.out.fst _ _ rfl hkey2 ?_; intro c hat hwc; obtain rfl : c = (j : Int) := (by rw [hAt.out] at hat; simpa using hat.symm)))
          go_ret3
          refine ⟨⟨_, _, _, rfl, .inr ⟨rfl, j, k, rfl, rfl, ?_⟩⟩, J4.out.below⟩
          rw [HSH.out]
          exact hFst.out
        · have h2 : Maps.has D2 (.int .u64 (sh k : Int)) = false := by
            cases e : Maps.has D2 (.int .u64 (sh k : Int))
            · rfl
            · exact absurd ((hF.out.1 (sh k)).1 e) hs
          have hs' := hide hs
          clear hs
          go_wp2_with (first | (at_lookup; refine wpList_lookup_own_ok_int _ rfl _ _ 55 rfl 22 3 .i64 lawU Try.underlying55 Try.underlying3 (zeroN _) (w.heap.size + 2) (2 * k + 1) D2 rfl J4.out.fst _ _ rfl hkey2 ?_; intro c hat hwc; clear hat hwc) | (at_mapUpdate; refine wpList_mapUpdate_own _ rfl _ _ _ 55 rfl 22 3 lawU Try.underlying55 (plainElem (H := Unit) Try.prog 3) (w.heap.size + 2) (2 * k + 1) D2 rfl J4.out.fst (by unfold maxLen; omega) _ _ _ rfl rfl hkey2 _ [] (plainElem_int Try.underlying3 (wfi64 k (by omega))) ?_; intro W5 ho5 hg5; have J5 := hide (J4.out.put2 ho5 hg5); clear ho5 hg5))
          exact ⟨⟨k + 1, D3, _, by omega, by go_num, hide (J5.out.mono (by omega)), hM3, hide (hF.out.new hid2.out hs'.out), hide (calm_new id sh hC.out hs'.out)⟩, by simp [intOf]; omega⟩
    · have hke : k = n := by omega
      subst hke
      go_wp2
      go_ret3
      refine ⟨⟨_, _, _, rfl, .inl ⟨rfl, rfl, rfl, ?_⟩⟩, J.out.below⟩
      rw [HSH.out]
      exact hC.out
end
end Go.Proofs.Ytpjpnkohagcegaa
