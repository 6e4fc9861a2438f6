/- The contracts of New, Clone, Len and State. The contracts of Hasher.Sum, sumBehind, Sum and Twice. The contracts of Sum of a nil hasher, sumBehind and Sum. The document's step: the contracts of constants and of its Step. -/
import Derived.Test.YthhojpplbhnnfaaGreatDoorX04
import Derived.Test.YthhojpplbhnnfaaGreatDoorX02
namespace Go.Proofs.YthhojpplbhnnfaaGreatDoor
open Go.RowKit
open Go.Deep
theorem run_build72 (w : World) (s : St) : (Instr.build 212 #[(0, .agg (uc s.list))]).run Tryz.prog w = .ok (.agg (hsA s zeros64 0)) w := by
  obtain ⟨a, b, c, d, e, f, g, h⟩ := s
  kernel_rfl
theorem wpList_build72 {w : World} {ops : Array Oper} {rest : List Oper} {o : Oper} {a : Act} {Q : Exit → Act → World → Prop} (hgd : o.guard = none) (x : Operand) (ho : o.op = .build 212 #[(0, x)]) (s : St) (hx : a.eval x = .agg (uc s.list))
    (h : wpList Tryz.prog ops Q rest (a.put o.dst (.agg (hsA s zeros64 0))) w) : wpList Tryz.prog ops Q (o :: rest) a w := by
  refine wpList_plain hgd fun K hK => ?_
  unfold Oper.wp execOp
  simp only [ho, List.map_toArray, List.map_cons, List.map_nil, hx, run_build72 w s, Sem.run_bind, Result.andThen_ok, Sem.run_pure]
  exact hK _ _ h
theorem Hat.empty {w : World} {b : Nat} (h : w.heap[b]? = some (.cells (hsA first zeros64 0) 212 (0, 0))) : Hat w b [] :=
  ⟨zeros64, zeros64_len, rfl, Hst.of_heap zeros64_len h⟩
section
set_option maxRecDepth 10000
set_option maxHeartbeats 1000000
theorem new_any (w : World) : Calls Tryz.prog 84 #[] w fun e w' => ∃ b, e = .returned (.pointer (some ⟨b, 0, none⟩)) ∧ Hat w' b [] ∧ Below w.heap.size w w' ∧ w.heap.size ≤ b := by
  have HF := hide fun W => first_any W
  go_enter Tryz.func84, Tryz.ntmps84
  go_wp2_with (first | (go_at_call 130; refine (HF.out _).mono ?_; rintro e w1 ⟨rfl, b1⟩) | refine wpList_build72 rfl _ rfl first rfl ?_ | refine wpList_boxA rfl _ rfl (hsA first zeros64 0) rfl ?_)
  go_ret
  exact ⟨w1.heap.size, rfl, Hat.empty (heap_alloc_last _ _), b1.alloc b1.size _, b1.size⟩
theorem clone_any (b : Nat) (t : List UInt8) (w : World) (h : Hat w b t) : Calls Tryz.prog 132 #[.pointer (some ⟨b, 0, none⟩)] w fun e w' => ∃ b', e = .returned (.pointer (some ⟨b', 0, none⟩)) ∧ Hat w' b' t ∧ Below w.heap.size w w' ∧ w.heap.size ≤ b' := by
  obtain ⟨tl, hl, ht, hh⟩ := h
  have HP := hide (hh.heap hl)
  have H1 := hide ht
  generalize hS : hsA (stN t (t.length / 64)) tl t.length = cs at *
  have hz : cs.size = 73 := by rw [← hS]; exact hsA_size _ _ _ hl
  have h1 : cs.all (·.oneCell') = true := by rw [← hS]; exact hsA_one _ _ _
  have HS := hide hS
  have HZ := hide hz
  have HO := hide h1
  clear hS hh ht hz h1
  go_enter Tryz.func132, Tryz.ntmps132
  go_wp2_with (first | refine wpList_loadA A72 rfl _ rfl _ rfl cs HZ.out 212 HP.out ?_ | refine wpList_allocA A72 rfl rfl ?_ | refine wpList_store_newA A72 rfl _ _ rfl _ rfl cs HZ.out HO.out rfl rfl ?_)
  go_ret
  refine ⟨w.heap.size, rfl, ⟨tl, hl, H1.out, Hst.of_heap hl ?_⟩, (Below.refl _ _).alloc (Nat.le_refl _) _, Nat.le_refl _⟩
  rw [HS.out]
  exact heap_alloc_last _ _
theorem clone_nil (w : World) : Calls Tryz.prog 132 #[.pointer none] w fun e w' => e = .returned (.pointer none) ∧ w' = w := by
  go_enter Tryz.func132, Tryz.ntmps132
  go_wp2
  go_ret
  exact ⟨rfl, rfl⟩
theorem write_nil (q : ByteArray) (w : World) : Calls Tryz.prog 85 #[.pointer none, .string q] w fun e w' => e = .returned (.tuple #[]) ∧ w' = w := by
  go_enter Tryz.func85, Tryz.ntmps85
  go_wp2
  exact bodyPost_ret (v := .tuple #[]) (by simp [results, Tryz.results85, go_sem]) rfl ⟨rfl, rfl⟩
end
/-- A part of a hasher's tail, turned into a string. -/
theorem Hst.conv {w : World} {b : Nat} {s : St} {tl : List UInt8} {n : Nat} (hl : tl.length = 64) (h : Hst w b s tl n) (r C : Nat) (hr : r ≤ 64) : (convert 198 9 (.slice (some ⟨b, 8, none⟩) r C)).run Tryz.prog w = .ok (.string ⟨(tl.take r).toArray⟩) w := by
  have hlen : (tl.take r).length = r := by rw [List.length_take]; omega
  have := run_convert_bytes_back (P := Tryz.prog) w 198 9 5 ⟨b, 8, none⟩ C (tl.take r) Tryz.underlying198 Tryz.underlying5 Tryz.underlying9 (fun j hj => by
    rw [Addr.add_mid]
    refine (h.range35 hl) j _ ?_
    rw [hlen] at hj
    simp [cellsL, List.getElem?_eq_getElem (show j < tl.length by omega)])
  rwa [hlen] at this
theorem res31_2 {fn : Func} {p u : Tmp} (hf : fn.results = #[.cell p 208, .tmp u]) (tmps : Array Value) (w : World) (g : Nat) (t : TypeId) (s : St)
    (hp : tmps.getD p undef = .pointer (some ⟨g, 0, none⟩)) (hg : w.heap[g]? = some (.cells (uc s.list) t (0, 0))) (x : Value) (hx : tmps.getD u undef = x) :
    (results fn tmps).run Tryz.prog w = .ok (.tuple #[.agg (uc s.list), x]) w := by
  subst hx
  have hp' : tmps[p]?.getD undef = .pointer (some ⟨g, 0, none⟩) := by simpa using hp
  simp [results, hf, hp', asAddr, run_loadVar_row w g t 208 (uc s.list) (0, 0) _ hg Tryz.underlying208 rfl A31.info]
theorem sv31_row {w : World} {g : Nat} {c0 : Array Value} {t : TypeId} (hn : c0.size = 8) (hg : w.heap[g]? = some (.cells c0 t (0, 0))) (s : St) : (sv31 (.pointer (some ⟨g, 0, none⟩)) (.agg (uc s.list))).run Tryz.prog w = .ok () (w.setRow g (uc s.list)) := by
  unfold sv31
  simp only [Instr.storeAt, Instr.sureAddr, Sem.run_bind, Sem.run_pure, Result.andThen_ok]
  rw [run_storeVar_row w g t 208 c0 (uc s.list) hg A31.info (by rw [hn]; rfl) (uc_one _)]
attribute [local go_sem ↓] ld31_eq sv31_eq
section
set_option maxRecDepth 10000
set_option maxHeartbeats 1000000
end
end Go.Proofs.YthhojpplbhnnfaaGreatDoor
namespace Go.Proofs.YthhojpplbhnnfaaGreatDoor
open Go.RowKit
open Go.Deep
theorem padL_len (n : Nat) : (padL n).length = 9 + padZ n := by rw [padL, padP_len]; omega
/-- The state behind a padded text. -/
def fin (t : List UInt8) : St := stN (t ++ padL t.length) ((t ++ padL t.length).length / 64)
/-- The sum of a text. -/
def digest (t : List UInt8) : List UInt8 := (fin t).bytes
theorem digest_len (t : List UInt8) : (digest t).length = 32 := bytes_len _
theorem Hat.ld31 {w : World} {b : Nat} {t : List UInt8} (h : Hat w b t) : (ld31 (.pointer (some ⟨b, 0, none⟩))).run Tryz.prog w = .ok (.agg (uc (stN t (t.length / 64)).list)) w := by
  obtain ⟨tl, hl, ht, hh⟩ := h
  exact hh.ld31
theorem Hat.long {w : World} {b : Nat} {t : List UInt8} (h : Hat w b t) : w.cell? ⟨b, 72, none⟩ = some (.int .u64 (t.length : Int)) := by
  obtain ⟨tl, hl, ht, hh⟩ := h
  exact hh.long
theorem two_below (w : World) (A B : Obj) : Below w.heap.size w ((w.alloc A).alloc B) := ((Below.refl _ _).alloc (Nat.le_refl _) _).alloc (by simp) _
theorem blk2 (w : World) (A B : Obj) : ((w.alloc A).alloc B).heap[w.heap.size]? = some A ∧ ((w.alloc A).alloc B).heap[w.heap.size + 1]? = some B := by
  have e1 := heap_alloc_last w A
  have e2 := heap_alloc_last (w.alloc A) B
  have s1 : (w.alloc A).heap.size = w.heap.size + 1 := by simp
  rw [s1] at e2
  exact ⟨(Below.heap_alloc _ B _ (by omega)).trans e1, e2⟩
/-- The hasher and its copy behind the copy. -/
theorem sum_mid {w : World} {b : Nat} {t : List UInt8} {cs : Array Value} {A : Obj} (h : Hat w b t) (hcs : w.heap[b]? = some (.cells cs 212 (0, 0))) :
    ((w.alloc A).alloc (.cells cs 212)).cell? ⟨b, 72, none⟩ = some (.int .u64 (t.length : Int)) ∧ Hid (Hat ((w.alloc A).alloc (.cells cs 212)) (w.heap.size + 1) t) := by
  have hb := two_below w A (.cells cs 212)
  refine ⟨(h.below hb).long, ?_⟩
  obtain ⟨tl, hl, ht, hh⟩ := h
  have e := hh.heap hl
  rw [hcs] at e
  have e2 : cs = hsA (stN t (t.length / 64)) tl t.length := by
    injection e with e
    injection e
  refine ⟨tl, hl, ht, Hst.of_heap hl ?_⟩
  rw [← e2]
  exact (blk2 w A _).2
/-- Behind the padding's write. -/
theorem sum_end {w W3 W4 : World} {A B : Obj} (b3 : Below ((w.alloc A).alloc B).heap.size ((w.alloc A).alloc B) W3) (r : Rfr (w.heap.size + 1) W3 W4) :
    Hid (W4.heap[w.heap.size]? = some A) ∧ Hid (Below w.heap.size w W4) := by
  have hN : ((w.alloc A).alloc B).heap.size = w.heap.size + 1 + 1 := by simp
  rw [hN] at b3
  have hs := b3.size
  rw [hN] at hs
  exact ⟨(r.block _ (by omega) (by omega)).trans ((b3.block _ (by omega)).trans (blk2 w A B).1), ((two_below w A B).trans (b3.mono (by omega))).trans (r.to_below (by omega) (by omega))⟩
attribute [local go_sem ↓] ld31_eq
section
set_option maxRecDepth 10000
set_option maxHeartbeats 1000000
theorem hsum_any (b : Nat) (t : List UInt8) (w : World) (hK : Kg w) (hs : t.length < 2305843009213693000) (h : Hat w b t) : Calls Tryz.prog 133 #[.pointer (some ⟨b, 0, none⟩)] w fun e w' => e = .returned (.agg (hc (digest t))) ∧ Below w.heap.size w w' := by
  obtain ⟨cs, hcs, hz, h1⟩ : ∃ cs, w.heap[b]? = some (.cells cs 212 (0, 0)) ∧ cs.size = 73 ∧ cs.all (·.oneCell') = true := by
    obtain ⟨tl, hl, ht, hh⟩ := h
    exact ⟨_, hh.heap hl, hsA_size _ _ _ hl, hsA_one _ _ _⟩
  have HZ := hide hz
  have HO := hide h1
  have HP := hide ((Below.heap_alloc w (.cells (hc zeros) 46) _ h.lt).trans hcs)
  obtain ⟨c72, HA⟩ := sum_mid (A := .cells (hc zeros) 46) h hcs
  have K2 := hide (hK.next (two_below w (.cells (hc zeros) 46) (.cells cs 212)))
  have hpad := hide fun W => pad_any t.length (by omega) W
  have hpl : (⟨(padL t.length).toArray⟩ : ByteArray).size = 9 + padZ t.length := by
    show (padL t.length).toArray.size = _
    rw [List.size_toArray, padL_len]
  have hzl := padZ_lt t.length
  have HW := hide fun W hW hH => write_any (w.heap.size + 1) t ⟨(padL t.length).toArray⟩ W hW (by have := hK.lt; omega) (by rw [hpl]; omega) hH
  have HL := hide fun W => laid_any (fin t) W
  have hfin : stN (t ++ padL t.length) ((t ++ padL t.length).length / 64) = fin t := rfl
  have HF := hide hfin
  have hdl := digest_len t
  clear hz h1 hcs hK h hfin hpl
  go_enter Tryz.func133, Tryz.ntmps133
  go_wp2_with (first | refine wpList_allocA A25 rfl rfl ?_ | refine wpList_loadA A72 rfl _ rfl _ rfl cs HZ.out 212 HP.out ?_ | refine wpList_allocA A72 rfl rfl ?_ | refine wpList_store_newA A72 rfl _ _ rfl _ rfl cs HZ.out HO.out rfl rfl ?_ | (go_at_call 176; refine (hpad.out _).mono ?_; rintro e w3 ⟨rfl, b3⟩) | (go_at_call 85; refine (HW.out _ (K2.out.next b3) (HA.out.below b3)).mono ?_; rintro e w4 ⟨rfl, h4, r4⟩; have l4 := h4.ld31; rw [HF.out] at l4; obtain ⟨n4, B4⟩ := sum_end b3 r4; clear h4 r4 b3) | (go_at_call 177; refine (HL.out _).mono ?_; rintro e w5 ⟨rfl, b5⟩; have n5 := hide ((b5.block _ (lt_heap n4.out)).trans n4.out); have B5 := hide (B4.out.trans (b5.mono B4.out.size)); clear b5) | refine wpList_storeA A25 rfl _ _ rfl _ (hc (digest t)) (by rw [hc_size, hdl]) (hc_one _) rfl rfl (hc zeros) (by rw [hc_size, zeros_len]) 46 n5.out ?_)
  exact bodyPost_ret (v := .agg (hc (digest t))) (resA A25 Tryz.results133 _ _ w.heap.size 46 _ (by rw [hc_size, hdl]) rfl (setRow_heap _ _ _ _ _ _ n5.out)) rfl ⟨rfl, below_setRow B5.out (Nat.le_refl _) _⟩
end
end Go.Proofs.YthhojpplbhnnfaaGreatDoor
namespace Go.Proofs.YthhojpplbhnnfaaGreatDoor
open Go.RowKit
open Go.Deep
theorem Hat.rfr {w w' : World} {b c : Nat} {t : List UInt8} (h : Hat w b t) (hb : b ≠ c) (r : Rfr c w w') : Hat w' b t := h.of_block (r.block b h.lt hb)
/-- A hash, turned into a string. -/
theorem conv_row (w : World) (g : Nat) (l : List UInt8) (hl : l.length = 32) (t : TypeId) (hg : w.heap[g]? = some (.cells (hc l) t (0, 0))) :
    (convert 198 9 (.slice (some ⟨g, 0, none⟩) 32 32)).run Tryz.prog w = .ok (.string ⟨l.toArray⟩) w := by
  have := run_convert_bytes_back (P := Tryz.prog) w 198 9 5 ⟨g, 0, none⟩ 32 l Tryz.underlying198 Tryz.underlying5 Tryz.underlying9 (fun j hj => by
    have hadd : (⟨g, 0, none⟩ : Addr).add j = ⟨g, j, none⟩ := by unfold Addr.add; split <;> simp_all
    rw [hadd, cell_of_row w g j _ t (0, 0) hg]
    simp [hc, cellsL, hj])
  rwa [hl] at this
theorem sb_mid {w w1 : World} {A : Obj} {b : Nat} (b1 : Below (w.alloc A).heap.size (w.alloc A) w1) (hb : (w.alloc A).heap.size ≤ b) : Hid (w1.heap[w.heap.size]? = some A) ∧ Hid (Below w.heap.size w w1) ∧ Hid (w.heap.size < b) := by
  have hN : (w.alloc A).heap.size = w.heap.size + 1 := by simp
  rw [hN] at b1 hb
  exact ⟨(b1.block _ (by omega)).trans (heap_alloc_last _ _), ((Below.refl _ _).alloc (Nat.le_refl _) _).trans (b1.mono (by omega)), Nat.lt_of_succ_le hb⟩
theorem sb_next {w w1 w2 : World} {A : Obj} {b : Nat} (n1 : w1.heap[w.heap.size]? = some A) (B1 : Below w.heap.size w w1) (hb : w.heap.size < b) (r : Rfr b w1 w2) : Hid (w2.heap[w.heap.size]? = some A) ∧ Hid (Below w.heap.size w w2) :=
  ⟨(r.block _ (lt_heap n1) (by omega)).trans n1, B1.trans (r.to_below (by omega) B1.size)⟩
theorem sb_last {w w1 w2 : World} {A : Obj} (n1 : w1.heap[w.heap.size]? = some A) (B1 : Below w.heap.size w w1) (r : Below w1.heap.size w1 w2) : Hid (w2.heap[w.heap.size]? = some A) ∧ Hid (Below w.heap.size w w2) :=
  ⟨(r.block _ (lt_heap n1)).trans n1, B1.trans (r.mono B1.size)⟩
section
set_option maxRecDepth 10000
set_option maxHeartbeats 1000000
theorem hsum_nil (w : World) (hK : Kg w) : Calls Tryz.prog 133 #[.pointer none] w fun e w' => e = .returned (.agg (hc (digest []))) ∧ Below w.heap.size w w' := by
  have HK := hide hK
  have HN := hide fun W => new_any W
  have hdl := digest_len []
  generalize hD : digest [] = D at *
  have HD := hide hD
  clear hK hD
  go_enter Tryz.func133, Tryz.ntmps133
  go_wp2_with (first | refine wpList_allocA A25 rfl rfl ?_ | (go_at_call 84; refine (HN.out _).mono ?_; rintro e w1 ⟨b, rfl, h1, b1, hb⟩; obtain ⟨n1, B1, hlt⟩ := sb_mid b1 hb; have H1 := hide h1; clear h1 b1 hb))
  refine (hsum_any b [] w1 (HK.out.next B1.out) (by simp) H1.out).mono ?_
  rintro e w2 ⟨rfl, b2⟩
  obtain ⟨n2, B2⟩ := sb_last n1.out B1.out b2
  clear b2
  rw [HD.out]
  go_wp2_with (refine wpList_storeA A25 rfl _ _ rfl _ (hc D) (by rw [hc_size, hdl]) (hc_one _) rfl rfl (hc zeros) (by rw [hc_size, zeros_len]) 46 n2.out ?_)
  exact bodyPost_ret (v := .agg (hc D)) (resA A25 Tryz.results133 _ _ w.heap.size 46 _ (by rw [hc_size, hdl]) rfl (setRow_heap _ _ _ _ _ _ n2.out)) rfl ⟨rfl, below_setRow B2.out (Nat.le_refl _) _⟩
theorem behind_any (a s : ByteArray) (hs : a.size + s.size < 2305843009213693000) (w : World) (hK : Kg w) : Calls Tryz.prog 171 #[.string a, .string s] w fun e w' => e = .returned (.agg (hc (digest (a.data.toList ++ s.data.toList)))) ∧ Below w.heap.size w w' := by
  have HK := hide hK
  have HN := hide fun W => new_any W
  have hdl := digest_len (a.data.toList ++ s.data.toList)
  have ha : a.data.toList.length = a.size := by simp
  have hsl : s.data.toList.length = s.size := by simp
  generalize hD : digest (a.data.toList ++ s.data.toList) = D at *
  have HD := hide hD
  clear hK hD
  go_enter Tryz.func171, Tryz.ntmps171
  go_wp2_with (first | refine wpList_allocA A25 rfl rfl ?_ | (go_at_call 84; refine (HN.out _).mono ?_; rintro e w1 ⟨b, rfl, h1, b1, hb⟩; obtain ⟨n1, B1, hlt⟩ := sb_mid b1 hb; have H1 := hide h1; clear h1 b1 hb))
  refine (write_any b [] a w1 (HK.out.next B1.out) (by have := hlt.out; have := HK.out.lt; omega) (by simp; omega) H1.out).mono ?_
  rintro e w2 ⟨rfl, h2, r2⟩
  obtain ⟨n2, B2⟩ := sb_next n1.out B1.out hlt.out r2
  have H2 := hide h2
  clear h2 r2 H1 n1 B1
  go_wp2_with fail
  refine (write_any b ([] ++ a.data.toList) s w2 (HK.out.next B2.out) (by have := hlt.out; have := HK.out.lt; omega) (by simp; omega) H2.out).mono ?_
  rintro e w3 ⟨rfl, h3, r3⟩
  obtain ⟨n3, B3⟩ := sb_next n2.out B2.out hlt.out r3
  have H3 := hide h3
  clear h3 r3 H2 n2 B2
  go_wp2_with fail
  refine (hsum_any b ([] ++ a.data.toList ++ s.data.toList) w3 (HK.out.next B3.out) (by simp; omega) H3.out).mono ?_
  rintro e w4 ⟨rfl, b4⟩
  obtain ⟨n4, B4⟩ := sb_last n3.out B3.out b4
  clear b4 H3 n3 B3
  rw [List.nil_append, HD.out]
  go_wp2_with (refine wpList_storeA A25 rfl _ _ rfl _ (hc D) (by rw [hc_size, hdl]) (hc_one _) rfl rfl (hc zeros) (by rw [hc_size, zeros_len]) 46 n4.out ?_)
  exact bodyPost_ret (v := .agg (hc D)) (resA A25 Tryz.results171 _ _ w.heap.size 46 _ (by rw [hc_size, hdl]) rfl (setRow_heap _ _ _ _ _ _ n4.out)) rfl ⟨rfl, below_setRow B4.out (Nat.le_refl _) _⟩
theorem sum_any (s : ByteArray) (hs : s.size < 2305843009213693000) (w : World) (hK : Kg w) : Calls Tryz.prog 122 #[.string s] w fun e w' => e = .returned (.agg (hc (digest s.data.toList))) ∧ Below w.heap.size w w' := by
  have HB := hide fun W hW => behind_any ⟨#[]⟩ s (by show 0 + s.size < _; omega) W hW
  have hdl := digest_len s.data.toList
  rw [show (⟨#[]⟩ : ByteArray).data.toList ++ s.data.toList = s.data.toList from rfl] at HB
  have K2 := hide (hK.next ((Below.refl w.heap.size w).alloc (Nat.le_refl _) (.cells (hc zeros) 46)))
  generalize digest s.data.toList = D at *
  clear hK
  go_enter Tryz.func122, Tryz.ntmps122
  go_wp2_with (first | refine wpList_allocA A25 rfl rfl ?_ | (go_at_call 171; refine (HB.out _ K2.out).mono ?_; rintro e w1 ⟨rfl, b1⟩; obtain ⟨n1, B1, hlt⟩ := sb_mid b1 (Nat.le_refl _); clear b1 hlt) | refine wpList_storeA A25 rfl _ _ rfl _ (hc D) (by rw [hc_size, hdl]) (hc_one _) rfl rfl (hc zeros) (by rw [hc_size, zeros_len]) 46 n1.out ?_)
  exact bodyPost_ret (v := .agg (hc D)) (resA A25 Tryz.results122 _ _ w.heap.size 46 _ (by rw [hc_size, hdl]) rfl (setRow_heap _ _ _ _ _ _ n1.out)) rfl ⟨rfl, below_setRow B1.out (Nat.le_refl _) _⟩
end
end Go.Proofs.YthhojpplbhnnfaaGreatDoor
namespace Go.Proofs.YthhojpplbhnnfaaGreatDoor
open Go.RowKit
open Go.Deep
theorem cell_set_far (w : World) (b b' i j : Nat) (v : Value) (h : b ≠ b') : (w.setCell ⟨b, i, none⟩ v).cell? ⟨b', j, none⟩ = w.cell? ⟨b', j, none⟩ :=
  World.cell?_setCell_other _ _ _ _ (by intro e; cases e; exact h rfl)
theorem cell_set_far_drew (w : World) (b b' i j : Nat) (v : Value) (h : b ≠ b') : (w.setCell ⟨b, i, none⟩ v).drew.cell? ⟨b', j, none⟩ = w.cell? ⟨b', j, none⟩ := cell_set_far w b b' i j v h
theorem shr10 (x : UInt32) : (x.toNat : Int) / 1024 = ((x >>> UInt32.ofNat 10).toNat : Int) := shrU x 10 (by omega)
theorem shr3 (x : UInt32) : (x.toNat : Int) / 8 = ((x >>> UInt32.ofNat 3).toNat : Int) := shrU x 3 (by omega)
theorem join32 (i : Nat) (x y : Int) (h0 : 0 ≤ x) (hm : x % 2 ^ i = 0) (h1 : x < 4294967296) (g0 : 0 ≤ y) (g1 : y < 2 ^ i) (g2 : y < 4294967296) : bits .or .u32 x y = x + y :=
  bits_join .u32 32 (by decide) (fun n h0 h1 => by rw [wrapU]; omega) i x y h0 hm h1 g0 g1 g2
theorem word_or (b : List UInt8) (t : Nat) : bits .or .u32 (bits .or .u32 (bits .or .u32 ((by8 b (4 * t) : Int) % 4294967296 * 16777216 % 4294967296) ((by8 b (4 * t + 1) : Int) % 4294967296 * 65536 % 4294967296)) ((by8 b (4 * t + 2) : Int) % 4294967296 * 256 % 4294967296)) ((by8 b (4 * t + 3) : Int) % 4294967296) = ((word b t).toNat : Int) := by
  have h0 := by8_lt b (4 * t)
  have h1 := by8_lt b (4 * t + 1)
  have h2 := by8_lt b (4 * t + 2)
  have h3 := by8_lt b (4 * t + 3)
  have e0 : (by8 b (4 * t) : Int) % 4294967296 * 16777216 % 4294967296 = (by8 b (4 * t) : Int) * 16777216 := by omega
  have e1 : (by8 b (4 * t + 1) : Int) % 4294967296 * 65536 % 4294967296 = (by8 b (4 * t + 1) : Int) * 65536 := by omega
  have e2 : (by8 b (4 * t + 2) : Int) % 4294967296 * 256 % 4294967296 = (by8 b (4 * t + 2) : Int) * 256 := by omega
  have e3 : (by8 b (4 * t + 3) : Int) % 4294967296 = (by8 b (4 * t + 3) : Int) := by omega
  rw [e0, e1, e2, e3, join32 24 ((by8 b (4 * t) : Int) * 16777216) ((by8 b (4 * t + 1) : Int) * 65536) (by omega) (by omega) (by omega) (by omega) (by omega) (by omega), join32 16 ((by8 b (4 * t) : Int) * 16777216 + (by8 b (4 * t + 1) : Int) * 65536) ((by8 b (4 * t + 2) : Int) * 256) (by omega) (by omega) (by omega) (by omega) (by omega) (by omega), join32 8 ((by8 b (4 * t) : Int) * 16777216 + (by8 b (4 * t + 1) : Int) * 65536 + (by8 b (4 * t + 2) : Int) * 256) (by8 b (4 * t + 3) : Int) (by omega) (by omega) (by omega) (by omega) (by omega) (by omega)]
  unfold word
  rw [UInt32.toNat_ofNat']
  omega
theorem sq_step (b : List UInt8) (k j : Nat) : (if j = k then Value.int .u32 ((ws b k).toNat : Int) else sqF b k j) = sqF b (k + 1) j := by
  unfold sqF
  by_cases e : j = k
  · subst e
    rw [if_pos rfl, if_pos (by omega)]
  · rw [if_neg e]
    by_cases e2 : j < k
    · rw [if_pos e2, if_pos (by omega)]
    · rw [if_neg e2, if_neg (by omega)]
theorem one_eq (r : St) (kt wt : UInt32) : (((r.h.toNat : Int) + bits BinOp.xor IntKind.u32 (bits BinOp.xor IntKind.u32 ((rotr r.e 6).toNat : Int) ((rotr r.e 11).toNat : Int)) ((rotr r.e 25).toNat : Int) + bits BinOp.xor IntKind.u32 (bits BinOp.and IntKind.u32 (r.e.toNat : Int) (r.f.toNat : Int)) (bits BinOp.and IntKind.u32 ((4294967295 - (r.e.toNat : Int)) % 4294967296) (r.g.toNat : Int)) + (kt.toNat : Int)) % 4294967296 + (wt.toNat : Int)) % 4294967296 = ((tone kt wt r).toNat : Int) := by
  rw [xorU, xorU, subU, andU, andU, xorU]
  have h := add5 r.h (rotr r.e 6 ^^^ rotr r.e 11 ^^^ rotr r.e 25) ((r.e &&& r.f) ^^^ (~~~r.e &&& r.g)) kt wt
  rw [Int.emod_add_emod, h]
  rfl
theorem two_eq (r : St) : (bits BinOp.xor IntKind.u32 (bits BinOp.xor IntKind.u32 ((rotr r.a 2).toNat : Int) ((rotr r.a 13).toNat : Int)) ((rotr r.a 22).toNat : Int) + bits BinOp.xor IntKind.u32 (bits BinOp.xor IntKind.u32 (bits BinOp.and IntKind.u32 (r.a.toNat : Int) (r.b.toNat : Int)) (bits BinOp.and IntKind.u32 (r.a.toNat : Int) (r.c.toNat : Int))) (bits BinOp.and IntKind.u32 (r.b.toNat : Int) (r.c.toNat : Int))) % 4294967296 = ((ttwo r).toNat : Int) := by
  rw [xorU, xorU, andU, andU, andU, xorU, xorU, addU]
  rfl
theorem addS_comm (x y : St) : addS x y = addS y x := by
  simp [addS, UInt32.add_comm]
theorem rs_mid {w wr : World} {g1 : Nat} {C0 C1 C2 C3 A : Obj} (r0 : wr.heap[w.heap.size]? = some C0) (r2 : wr.heap[w.heap.size + 1 + 1]? = some C1) (r3 : wr.heap[g1]? = some C2) (r4 : wr.heap[g1 + 1]? = some C3) (bb : Below w.heap.size w wr) :
    Hid ((wr.alloc A).heap[w.heap.size]? = some C0) ∧ Hid ((wr.alloc A).heap[w.heap.size + 1 + 1]? = some C1) ∧ Hid ((wr.alloc A).heap[g1]? = some C2) ∧ Hid ((wr.alloc A).heap[g1 + 1]? = some C3) ∧ Hid ((wr.alloc A).heap[wr.heap.size]? = some A) ∧ Hid (Below w.heap.size w (wr.alloc A)) ∧ Hid (g1 + 1 < wr.heap.size) :=
  ⟨(Below.heap_alloc _ A _ (lt_heap r0)).trans r0, (Below.heap_alloc _ A _ (lt_heap r2)).trans r2, (Below.heap_alloc _ A _ (lt_heap r3)).trans r3, (Below.heap_alloc _ A _ (lt_heap r4)).trans r4, heap_alloc_last _ _, bb.alloc bb.size _, lt_heap r4⟩
theorem mid2 {w w1 : World} {A B C D E : Obj} (b1 : Below (((w.alloc A).alloc B).alloc C).heap.size (((w.alloc A).alloc B).alloc C) w1) :
    Hid (((w1.alloc D).alloc E).heap[w.heap.size]? = some A) ∧ Hid (((w1.alloc D).alloc E).heap[w.heap.size + 1]? = some B) ∧ Hid (((w1.alloc D).alloc E).heap[w.heap.size + 1 + 1]? = some C) ∧ Hid (((w1.alloc D).alloc E).heap[w1.heap.size]? = some D) ∧ Hid (((w1.alloc D).alloc E).heap[w1.heap.size + 1]? = some E) ∧ Hid (Below w.heap.size w ((w1.alloc D).alloc E)) ∧ Hid (w.heap.size + 1 + 1 < w1.heap.size) := by
  obtain ⟨x0, x1, x2⟩ := blk3 w A B C
  have hN : (((w.alloc A).alloc B).alloc C).heap.size = w.heap.size + 1 + 1 + 1 := by simp
  have hs := b1.size
  have B1 : Below w.heap.size w w1 := (below3 w A B C).trans (b1.mono (by omega))
  have s1 : (w1.alloc D).heap.size = w1.heap.size + 1 := by simp
  have e2 := heap_alloc_last (w1.alloc D) E
  rw [s1] at e2
  have old : ∀ k, k < w.heap.size + 1 + 1 + 1 → ((w1.alloc D).alloc E).heap[k]? = (((w.alloc A).alloc B).alloc C).heap[k]? := fun k hk =>
    (Below.heap_alloc _ _ _ (by omega)).trans ((Below.heap_alloc _ _ _ (by omega)).trans (b1.block _ (by omega)))
  refine ⟨(old _ (by omega)).trans x0, (old _ (by omega)).trans x1, (old _ (by omega)).trans x2, (Below.heap_alloc _ _ _ (by omega)).trans (heap_alloc_last _ _), e2, (B1.alloc B1.size _).alloc (by have := B1.size; simp; omega) _, ?_⟩
  show w.heap.size + 1 + 1 < w1.heap.size
  omega
section
set_option maxRecDepth 10000
set_option maxHeartbeats 1000000
theorem constants_any (w : World) : Calls Tryz.prog 237 #[] w fun e w' => e = .returned (.agg (uc kL)) ∧ Below w.heap.size w w' := by
  go_enter Tryz.func237, Tryz.ntmps237
  go_wp2_with (first | refine wpList_allocA A66 rfl rfl ?_ | refine wpList_store_newA A66 rfl _ _ rfl _ rfl (uc kL) (by rw [uc_size, kL_len]) (uc_one _) rfl (by kernel_rfl) ?_)
  exact bodyPost_ret (v := .agg (uc kL)) (resA A66 Tryz.results237 _ _ w.heap.size 259 _ (by rw [uc_size, kL_len]) rfl (heap_alloc_last _ _)) rfl ⟨rfl, (Below.refl _ _).alloc (Nat.le_refl _) _⟩
end
end Go.Proofs.YthhojpplbhnnfaaGreatDoor
