/- The contract of Hasher.Write. The contracts of New, Clone, Len and State. The contracts of Hasher.Sum, sumBehind, Sum and Twice. The contracts of Sum of a nil hasher, sumBehind and Sum. -/
import Derived.Test.YtppooipamibhoaaGreatDoorX03
namespace Go.Proofs.YtppooipamibhoaaGreatDoor
open Go.RowKit
open Go.Deep
/-- w' is w but for block b and new blocks. -/
structure Rfr (b : Nat) (w w' : World) : Prop where
  os : w'.os = w.os
  tape : w'.tape = w.tape
  output : w'.output = w.output
  size : w.heap.size ≤ w'.heap.size
  block : ∀ k, k < w.heap.size → k ≠ b → w'.heap[k]? = w.heap[k]?
theorem Rfr.refl (b : Nat) (w : World) : Rfr b w w := ⟨rfl, rfl, rfl, Nat.le_refl _, fun _ _ _ => rfl⟩
theorem Rfr.trans {b : Nat} {w w1 w2 : World} (h : Rfr b w w1) (k : Rfr b w1 w2) : Rfr b w w2 :=
  ⟨k.os.trans h.os, k.tape.trans h.tape, k.output.trans h.output, Nat.le_trans h.size k.size, fun i hi hb => (k.block i (Nat.lt_of_lt_of_le hi h.size) hb).trans (h.block i hi hb)⟩
theorem Rfr.drew (b : Nat) (w : World) : Rfr b w w.drew := ⟨rfl, rfl, rfl, Nat.le_refl _, fun _ _ _ => rfl⟩
theorem Rfr.drewN (b : Nat) (w : World) (n : Nat) : Rfr b w (w.drewN n) := ⟨rfl, rfl, rfl, Nat.le_refl _, fun _ _ _ => rfl⟩
theorem Rfr.below {b : Nat} {w w' : World} (h : Below w.heap.size w w') : Rfr b w w' := ⟨h.os, h.tape, h.output, h.size, fun k hk _ => h.block k hk⟩
theorem Rfr.setCell (b : Nat) (w : World) (i : Nat) (v : Value) : Rfr b w (w.setCell ⟨b, i, none⟩ v) :=
  ⟨rfl, rfl, rfl, by simp [World.setCell], fun k _ hk => Below.heap_setCell _ _ _ _ hk⟩
theorem Rfr.setCells (b : Nat) : ∀ (vs : List Value) (o : Nat) (w : World), Rfr b w (w.setCells b o vs)
  | [], _, w => Rfr.refl b w
  | v :: r, o, w => (Rfr.setCell b w o v).trans (Rfr.setCells b r (o + 1) _)
theorem Rfr.to_below {b B : Nat} {w w' : World} (h : Rfr b w w') (hb : B ≤ b) (hw : B ≤ w.heap.size) : Below B w w' :=
  ⟨h.os, h.tape, h.output, h.size, fun k hk => h.block k (by omega) (by omega)⟩
theorem Kg.rfr {w w' : World} {b : Nat} (h : Kg w) (hb : b ≠ 0) (r : Rfr b w w') : Kg w' := fun j hj =>
  (World.cell?_of_block (w := w) (a := ⟨0, j, none⟩) (r.block 0 h.lt (by omega))).trans (h j hj)
/-- A hasher at block b to which the text t was written. -/
def Hat (w : World) (b : Nat) (t : List UInt8) : Prop := ∃ tl, tl.length = 64 ∧ tl.take (t.length % 64) = rest t ∧ Hst w b (stN t (t.length / 64)) tl t.length
theorem Hat.lt {w : World} {b : Nat} {t : List UInt8} (h : Hat w b t) : b < w.heap.size := by
  obtain ⟨_, _, _, h⟩ := h
  exact h.lt
theorem Hat.of_block {w w' : World} {b : Nat} {t : List UInt8} (h : Hat w b t) (e : w'.heap[b]? = w.heap[b]?) : Hat w' b t := by
  obtain ⟨tl, h1, h2, h⟩ := h
  exact ⟨tl, h1, h2, h.of_block e⟩
theorem Hat.below {w w' : World} {b : Nat} {t : List UInt8} (h : Hat w b t) (hb : Below w.heap.size w w') : Hat w' b t := h.of_block (hb.block b h.lt)
theorem hat_more {w : World} {b n : Nat} {T tl x : List UInt8} {st : St} (hn : T.length = n) (hl : tl.length = 64) (hst : stN T (n / 64) = st) (ht : tl.take (n % 64) = rest T) (hA : n % 64 + x.length < 64)
    (h : Hst w b st (tl2 tl (n % 64) x) (n + x.length)) : Hat w b (T ++ x) := by
  subst hn
  refine ⟨_, tl2_len tl _ x hl (by omega), more_rest T x tl hA hl ht, ?_⟩
  rw [more_st T x hA, hst, List.length_append]
  exact h
theorem hat_full {w : World} {b n : Nat} {T tl x : List UInt8} {st : St} (hn : T.length = n) (hl : tl.length = 64) (hst : stN T (n / 64) = st) (ht : tl.take (n % 64) = rest T) (hA : n % 64 + x.length = 64)
    (h : Hst w b (step st (tl2 tl (n % 64) x)) (tl2 tl (n % 64) x) (n + x.length)) : Hat w b (T ++ x) := by
  subst hn
  have h0 := full_mod T x hA
  refine ⟨_, tl2_len tl (T.length % 64) x hl (by omega), ?_, ?_⟩
  · rw [h0, rest_nil _ h0]
    rfl
  · rw [full_st T x tl hA hl ht, hst, List.length_append]
    exact h
theorem ext_list (x : ByteArray) (k : Nat) : (x.extract k x.size).data.toList = x.data.toList.drop k := by
  rw [ByteArray.data_extract, Array.toList_extract]
  simp [List.extract]
  rw [List.take_of_length_le]
  simp
def lenS : Value → Nat
  | .string s => s.size
  | _ => 0
attribute [local go_sem ↓] ld31_eq ld35_eq sv31_eq
section
set_option maxRecDepth 10000
set_option maxHeartbeats 1000000
theorem write_any (b : Nat) (t : List UInt8) (q : ByteArray) (w : World) (hK : Kg w) (hb : b ≠ 0) (hs : t.length + q.size < 2305843009213693952) (h : Hat w b t) :
    Calls Tryz.prog 144 #[.pointer (some ⟨b, 0, none⟩), .string q] w fun e w' => e = .returned (.tuple #[]) ∧ Hat w' b (t ++ q.data.toList) ∧ Rfr b w w' := by
  have HK := hide hK
  have H0 := hide h
  clear hK h
  go_enter Tryz.func144, Tryz.ntmps144
  go_wp2
  go_loopw [1, 4] (fun sv _ wr => ∃ (p : List UInt8) (x : ByteArray), Hid (q.data.toList = p ++ x.data.toList) ∧ sv = .string x ∧ Hid (Hat wr b (t ++ p)) ∧ Hid (Rfr b w wr)) (fun sv _ _ => lenS sv)
  case atStart => exact ⟨[], q, rfl, rfl, by simpa [Hid] using H0.out, Rfr.refl _ _⟩
  case round =>
    obtain ⟨p, x, hq, rfl, HH, RR⟩ := hrel
    have hsz : (t ++ p).length + x.size < 2305843009213693952 := by
      have := congrArg List.length hq.out
      simp at this
      simp
      omega
    by_cases hx : 0 < x.size
    · generalize hT : t ++ p = T at *
      obtain ⟨tl, hl, ht, hh⟩ := HH.out
      generalize hn : T.length = n at *
      generalize hst : stN T (n / 64) = st at *
      have c72 := hh.long
      have b1 : (0 : Int) ≤ (n : Int) % 64 := by omega
      have b2 : (n : Int) % 64 ≤ 64 := by omega
      have e1 : ((n : Int) % 64).toNat = n % 64 := by omega
      have hcp := Hst.copy (w := wr.drew) hh (n % 64) (by omega) x (64 - n % 64)
      have hxl : x.data.toList.length = x.size := by simp
      by_cases hA : n % 64 + x.size < 64
      · rw [List.take_of_length_le (by omega), Nat.min_eq_left (by omega)] at hcp
        have HT : Hid (T.length % 64 + x.data.toList.length < 64) := by rw [hn, hxl]; exact hA
        have h2 := Hst.copied (w := wr.drew) hl hh (n % 64) x.data.toList (by omega)
        have R2 := hide ((Rfr.drew b wr).trans (Rfr.setCells b (cellsL x.data.toList) (8 + n % 64) wr.drew))
        generalize wr.drew.setCells b (8 + n % 64) (cellsL x.data.toList) = W1 at *
        have d72 := h2.long
        have g72 := h2.frozen 72
        have H3 := hide (h2.setLong (n + x.size))
        have t1 : (((n : Int) + x.size) % 64 == 0) = false := by simp; omega
        have HHt := hide ht
        have HHh := hide hst
        clear ht hst hh h2
        go_wp2
        go_region
        go_wp2
        refine ⟨⟨p ++ x.data.toList, ByteArray.empty, ?_, rfl, ?_, ?_⟩, ?_⟩
        · show q.data.toList = p ++ x.data.toList ++ []
          rw [List.append_nil]; exact hq.out
        · show Hat _ b (t ++ (p ++ x.data.toList))
          rw [← List.append_assoc, hT]
          refine hat_more hn hl HHh.out HHt.out (by omega) ?_
          rw [hxl]
          exact H3.out
        · exact hide (RR.out.trans (R2.out.trans (Rfr.setCell b W1 72 _)))
        · exact hx
      · have hk : (x.data.toList.take (64 - n % 64)).length = 64 - n % 64 := by rw [List.length_take]; omega
        rw [Nat.min_eq_right (by omega)] at hcp
        have h2 := Hst.copied (w := wr.drew) hl hh (n % 64) (x.data.toList.take (64 - n % 64)) (by omega)
        have hl2 := tl2_len tl (n % 64) (x.data.toList.take (64 - n % 64)) hl (by omega)
        have R2 := hide ((Rfr.drew b wr).trans (Rfr.setCells b (cellsL (x.data.toList.take (64 - n % 64))) (8 + n % 64) wr.drew))
        generalize hx1 : x.data.toList.take (64 - n % 64) = x1 at *
        generalize wr.drew.setCells b (8 + n % 64) (cellsL x1) = W1 at *
        generalize htl2 : tl2 tl (n % 64) x1 = tl3 at *
        have d72 := h2.long
        have g72 := h2.frozen 72
        have H3 := h2.setLong (n + (64 - n % 64))
        have R3 := hide (R2.out.trans (Rfr.setCell b W1 72 (.int .u64 ((n + (64 - n % 64) : Nat) : Int))))
        have K3 := hide (HK.out.rfr hb (RR.out.trans R3.out))
        have t1 : (((n : Int) + ((64 - n % 64 : Nat) : Int)) % 64 == 0) = true := by simp; omega
        have ec : ((n + (64 - n % 64) : Nat) : Int) = (n : Int) + ((64 - n % 64 : Nat) : Int) := by omega
        rw [ec] at H3 R3 K3
        have wk : IntKind.u64.wrap ((64 - n % 64 : Nat) : Int) = ((64 - n % 64 : Nat) : Int) := wrapu _ (by omega) (by omega)
        have HHt := hide ht
        have HHh := hide hst
        have HX := hide hx1
        have HTL := hide htl2
        have HS := hide fun W hW => step_any st tl3 hl2 W hW
        have H3' := hide H3
        clear ht hst hh h2 hx1 htl2 H3 R2
        go_wp2
        go_region
        generalize hk0 : 64 - n % 64 = k at *
        have k1 : k ≤ x.size := by omega
        have k2 : 0 < k := by omega
        have Hk := hide hk0
        have k64 : k ≤ 64 := by omega
        clear hk0 ec
        generalize hW2 : W1.setCell ⟨b, 72, none⟩ (.int .u64 ((n : Int) + (k : Int))) = W2 at *
        have HW2 := hide hW2
        have l1 := Hst.ld31 (w := W2.drew) H3'.out
        have l2 := Hst.ld35 (w := W2.drew) hl2 H3'.out
        have e72 : W2.cell? ⟨b, 72, none⟩ = some (.int .u64 ((n : Int) + (k : Int))) := by
          have := H3'.out.long
          rw [this]
          congr 2
        have K4 : Hid (Kg W2.drew) := K3.out
        go_wp2
        go_region_with (go_at_call 229; refine (HS.out _ K4.out).mono ?_; rintro e w3 ⟨rfl, b3⟩; have H4 := hide (Hst.below (w := W2.drew) H3'.out b3); have hsv := H4.out.sv31 (step st tl3); have R4 := hide (Rfr.below (b := b) b3); clear b3)
        all_goals go_wp2
        all_goals
          refine ⟨⟨p ++ x1, x.extract k x.size, ?_, rfl, ?_, ?_⟩, ?_⟩
          · show q.data.toList = p ++ x1 ++ (x.extract k x.size).data.toList
            rw [ext_list, ← HX.out, List.append_assoc, List.take_append_drop]; exact hq.out
          · show Hat _ b (t ++ (p ++ x1))
            rw [← List.append_assoc, hT]
            refine hat_full hn hl HHh.out HHt.out (by have := Hk.out; omega) ?_
            rw [HTL.out, hk]
            exact H4.out.set31 (step st tl3)
          · exact hide (RR.out.trans (R3.out.trans ((Rfr.drew b W2).trans (R4.out.trans (Rfr.setCells b _ _ _)))))
          · simp [lenS]
            omega
    · have hx0 : x.size = 0 := by omega
      have hxe : x.data.toList = [] := List.eq_nil_of_length_eq_zero (by simpa using hx0)
      go_wp2
      go_end0
      refine ⟨rfl, ?_, RR.out⟩
      have := hq.out
      rw [hxe, List.append_nil] at this
      rw [this]
      exact HH.out
end
end Go.Proofs.YtppooipamibhoaaGreatDoor
namespace Go.Proofs.YtppooipamibhoaaGreatDoor
open Go.RowKit
open Go.Deep
theorem run_build72 (w : World) (s : St) : (Instr.build 364 #[(0, .agg (uc s.list))]).run Tryz.prog w = .ok (.agg (hsA s zeros64 0)) w := by
  obtain ⟨a, b, c, d, e, f, g, h⟩ := s
  kernel_rfl
theorem wpList_build72 {w : World} {ops : Array Oper} {rest : List Oper} {o : Oper} {a : Act} {Q : Exit → Act → World → Prop} (hgd : o.guard = none) (x : Operand) (ho : o.op = .build 364 #[(0, x)]) (s : St) (hx : a.eval x = .agg (uc s.list))
    (h : wpList Tryz.prog ops Q rest (a.put o.dst (.agg (hsA s zeros64 0))) w) : wpList Tryz.prog ops Q (o :: rest) a w := by
  refine wpList_plain hgd fun K hK => ?_
  unfold Oper.wp execOp
  simp only [ho, List.map_toArray, List.map_cons, List.map_nil, hx, run_build72 w s, Sem.run_bind, Result.andThen_ok, Sem.run_pure]
  exact hK _ _ h
theorem Hat.empty {w : World} {b : Nat} (h : w.heap[b]? = some (.cells (hsA first zeros64 0) 364 (0, 0))) : Hat w b [] :=
  ⟨zeros64, zeros64_len, rfl, Hst.of_heap zeros64_len h⟩
section
set_option maxRecDepth 10000
set_option maxHeartbeats 1000000
theorem new_any (w : World) : Calls Tryz.prog 143 #[] w fun e w' => ∃ b, e = .returned (.pointer (some ⟨b, 0, none⟩)) ∧ Hat w' b [] ∧ Below w.heap.size w w' ∧ w.heap.size ≤ b := by
  have HF := hide fun W => first_any W
  go_enter Tryz.func143, Tryz.ntmps143
  go_wp2_with (first | (go_at_call 228; refine (HF.out _).mono ?_; rintro e w1 ⟨rfl, b1⟩) | refine wpList_build72 rfl _ rfl first rfl ?_ | refine wpList_boxA rfl _ rfl (hsA first zeros64 0) rfl ?_)
  go_ret
  exact ⟨w1.heap.size, rfl, Hat.empty (heap_alloc_last _ _), b1.alloc b1.size _, b1.size⟩
theorem clone_any (b : Nat) (t : List UInt8) (w : World) (h : Hat w b t) : Calls Tryz.prog 231 #[.pointer (some ⟨b, 0, none⟩)] w fun e w' => ∃ b', e = .returned (.pointer (some ⟨b', 0, none⟩)) ∧ Hat w' b' t ∧ Below w.heap.size w w' ∧ w.heap.size ≤ b' := by
  obtain ⟨tl, hl, ht, hh⟩ := h
  have HP := hide (hh.heap hl)
  have H1 := hide ht
  generalize hS : hsA (stN t (t.length / 64)) tl t.length = cs at *
  have hz : cs.size = 73 := by rw [← hS]; exact hsA_size _ _ _ hl
  have h1 : cs.all (·.oneCell') = true := by rw [← hS]; exact hsA_one _ _ _
  have HS := hide hS
  have HZ := hide hz
  have HO := hide h1
  clear hS hh ht hz h1
  go_enter Tryz.func231, Tryz.ntmps231
  go_wp2_with (first | refine wpList_loadA A72 rfl _ rfl _ rfl cs HZ.out 364 HP.out ?_ | refine wpList_allocA A72 rfl rfl ?_ | refine wpList_store_newA A72 rfl _ _ rfl _ rfl cs HZ.out HO.out rfl rfl ?_)
  go_ret
  refine ⟨w.heap.size, rfl, ⟨tl, hl, H1.out, Hst.of_heap hl ?_⟩, (Below.refl _ _).alloc (Nat.le_refl _) _, Nat.le_refl _⟩
  rw [HS.out]
  exact heap_alloc_last _ _
theorem clone_nil (w : World) : Calls Tryz.prog 231 #[.pointer none] w fun e w' => e = .returned (.pointer none) ∧ w' = w := by
  go_enter Tryz.func231, Tryz.ntmps231
  go_wp2
  go_ret
  exact ⟨rfl, rfl⟩
theorem write_nil (q : ByteArray) (w : World) : Calls Tryz.prog 144 #[.pointer none, .string q] w fun e w' => e = .returned (.tuple #[]) ∧ w' = w := by
  go_enter Tryz.func144, Tryz.ntmps144
  go_wp2
  exact bodyPost_ret (v := .tuple #[]) (by simp [results, Tryz.results144, go_sem]) rfl ⟨rfl, rfl⟩
end
/-- A part of a hasher's tail, turned into a string. -/
theorem Hst.conv {w : World} {b : Nat} {s : St} {tl : List UInt8} {n : Nat} (hl : tl.length = 64) (h : Hst w b s tl n) (r C : Nat) (hr : r ≤ 64) : (convert 258 9 (.slice (some ⟨b, 8, none⟩) r C)).run Tryz.prog w = .ok (.string ⟨(tl.take r).toArray⟩) w := by
  have hlen : (tl.take r).length = r := by rw [List.length_take]; omega
  have := run_convert_bytes_back (P := Tryz.prog) w 258 9 5 ⟨b, 8, none⟩ C (tl.take r) Tryz.underlying258 Tryz.underlying5 Tryz.underlying9 (fun j hj => by
    rw [Addr.add_mid]
    refine (h.range35 hl) j _ ?_
    rw [hlen] at hj
    simp [cellsL, List.getElem?_eq_getElem (show j < tl.length by omega)])
  rwa [hlen] at this
theorem res31_2 {fn : Func} {p u : Tmp} (hf : fn.results = #[.cell p 360, .tmp u]) (tmps : Array Value) (w : World) (g : Nat) (t : TypeId) (s : St)
    (hp : tmps.getD p undef = .pointer (some ⟨g, 0, none⟩)) (hg : w.heap[g]? = some (.cells (uc s.list) t (0, 0))) (x : Value) (hx : tmps.getD u undef = x) :
    (results fn tmps).run Tryz.prog w = .ok (.tuple #[.agg (uc s.list), x]) w := by
  subst hx
  have hp' : tmps[p]?.getD undef = .pointer (some ⟨g, 0, none⟩) := by simpa using hp
  simp [results, hf, hp', asAddr, run_loadVar_row w g t 360 (uc s.list) (0, 0) _ hg Tryz.underlying360 rfl A31.info]
theorem sv31_row {w : World} {g : Nat} {c0 : Array Value} {t : TypeId} (hn : c0.size = 8) (hg : w.heap[g]? = some (.cells c0 t (0, 0))) (s : St) : (sv31 (.pointer (some ⟨g, 0, none⟩)) (.agg (uc s.list))).run Tryz.prog w = .ok () (w.setRow g (uc s.list)) := by
  unfold sv31
  simp only [Instr.storeAt, Instr.sureAddr, Sem.run_bind, Sem.run_pure, Result.andThen_ok]
  rw [run_storeVar_row w g t 360 c0 (uc s.list) hg A31.info (by rw [hn]; rfl) (uc_one _)]
attribute [local go_sem ↓] ld31_eq sv31_eq
section
set_option maxRecDepth 10000
set_option maxHeartbeats 1000000
end
end Go.Proofs.YtppooipamibhoaaGreatDoor
namespace Go.Proofs.YtppooipamibhoaaGreatDoor
open Go.RowKit
open Go.Deep
theorem padL_len (n : Nat) : (padL n).length = 9 + padZ n := by rw [padL, padP_len]; omega
/-- The state behind a padded text. -/
def fin (t : List UInt8) : St := stN (t ++ padL t.length) ((t ++ padL t.length).length / 64)
/-- The sum of a text. -/
def digest (t : List UInt8) : List UInt8 := (fin t).bytes
theorem digest_len (t : List UInt8) : (digest t).length = 32 := bytes_len _
theorem Hat.ld31 {w : World} {b : Nat} {t : List UInt8} (h : Hat w b t) : (ld31 (.pointer (some ⟨b, 0, none⟩))).run Tryz.prog w = .ok (.agg (uc (stN t (t.length / 64)).list)) w := by
  obtain ⟨tl, hl, ht, hh⟩ := h
  exact hh.ld31
theorem Hat.long {w : World} {b : Nat} {t : List UInt8} (h : Hat w b t) : w.cell? ⟨b, 72, none⟩ = some (.int .u64 (t.length : Int)) := by
  obtain ⟨tl, hl, ht, hh⟩ := h
  exact hh.long
theorem two_below (w : World) (A B : Obj) : Below w.heap.size w ((w.alloc A).alloc B) := ((Below.refl _ _).alloc (Nat.le_refl _) _).alloc (by simp) _
theorem blk2 (w : World) (A B : Obj) : ((w.alloc A).alloc B).heap[w.heap.size]? = some A ∧ ((w.alloc A).alloc B).heap[w.heap.size + 1]? = some B := by
  have e1 := heap_alloc_last w A
  have e2 := heap_alloc_last (w.alloc A) B
  have s1 : (w.alloc A).heap.size = w.heap.size + 1 := by simp
  rw [s1] at e2
  exact ⟨(Below.heap_alloc _ B _ (by omega)).trans e1, e2⟩
/-- The hasher and its copy behind the copy. -/
theorem sum_mid {w : World} {b : Nat} {t : List UInt8} {cs : Array Value} {A : Obj} (h : Hat w b t) (hcs : w.heap[b]? = some (.cells cs 364 (0, 0))) :
    ((w.alloc A).alloc (.cells cs 364)).cell? ⟨b, 72, none⟩ = some (.int .u64 (t.length : Int)) ∧ Hid (Hat ((w.alloc A).alloc (.cells cs 364)) (w.heap.size + 1) t) := by
  have hb := two_below w A (.cells cs 364)
  refine ⟨(h.below hb).long, ?_⟩
  obtain ⟨tl, hl, ht, hh⟩ := h
  have e := hh.heap hl
  rw [hcs] at e
  have e2 : cs = hsA (stN t (t.length / 64)) tl t.length := by
    injection e with e
    injection e
  refine ⟨tl, hl, ht, Hst.of_heap hl ?_⟩
  rw [← e2]
  exact (blk2 w A _).2
/-- Behind the padding's write. -/
theorem sum_end {w W3 W4 : World} {A B : Obj} (b3 : Below ((w.alloc A).alloc B).heap.size ((w.alloc A).alloc B) W3) (r : Rfr (w.heap.size + 1) W3 W4) :
    Hid (W4.heap[w.heap.size]? = some A) ∧ Hid (Below w.heap.size w W4) := by
  have hN : ((w.alloc A).alloc B).heap.size = w.heap.size + 1 + 1 := by simp
  rw [hN] at b3
  have hs := b3.size
  rw [hN] at hs
  exact ⟨(r.block _ (by omega) (by omega)).trans ((b3.block _ (by omega)).trans (blk2 w A B).1), ((two_below w A B).trans (b3.mono (by omega))).trans (r.to_below (by omega) (by omega))⟩
attribute [local go_sem ↓] ld31_eq
section
set_option maxRecDepth 10000
set_option maxHeartbeats 1000000
theorem hsum_any (b : Nat) (t : List UInt8) (w : World) (hK : Kg w) (hs : t.length < 2305843009213693000) (h : Hat w b t) : Calls Tryz.prog 232 #[.pointer (some ⟨b, 0, none⟩)] w fun e w' => e = .returned (.agg (hc (digest t))) ∧ Below w.heap.size w w' := by
  obtain ⟨cs, hcs, hz, h1⟩ : ∃ cs, w.heap[b]? = some (.cells cs 364 (0, 0)) ∧ cs.size = 73 ∧ cs.all (·.oneCell') = true := by
    obtain ⟨tl, hl, ht, hh⟩ := h
    exact ⟨_, hh.heap hl, hsA_size _ _ _ hl, hsA_one _ _ _⟩
  have HZ := hide hz
  have HO := hide h1
  have HP := hide ((Below.heap_alloc w (.cells (hc zeros) 46) _ h.lt).trans hcs)
  obtain ⟨c72, HA⟩ := sum_mid (A := .cells (hc zeros) 46) h hcs
  have K2 := hide (hK.next (two_below w (.cells (hc zeros) 46) (.cells cs 364)))
  have hpad := hide fun W => pad_any t.length (by omega) W
  have hpl : (⟨(padL t.length).toArray⟩ : ByteArray).size = 9 + padZ t.length := by
    show (padL t.length).toArray.size = _
    rw [List.size_toArray, padL_len]
  have hzl := padZ_lt t.length
  have HW := hide fun W hW hH => write_any (w.heap.size + 1) t ⟨(padL t.length).toArray⟩ W hW (by have := hK.lt; omega) (by rw [hpl]; omega) hH
  have HL := hide fun W => laid_any (fin t) W
  have hfin : stN (t ++ padL t.length) ((t ++ padL t.length).length / 64) = fin t := rfl
  have HF := hide hfin
  have hdl := digest_len t
  clear hz h1 hcs hK h hfin hpl
  go_enter Tryz.func232, Tryz.ntmps232
  go_wp2_with (first | refine wpList_allocA A25 rfl rfl ?_ | refine wpList_loadA A72 rfl _ rfl _ rfl cs HZ.out 364 HP.out ?_ | refine wpList_allocA A72 rfl rfl ?_ | refine wpList_store_newA A72 rfl _ _ rfl _ rfl cs HZ.out HO.out rfl rfl ?_ | (go_at_call 300; refine (hpad.out _).mono ?_; rintro e w3 ⟨rfl, b3⟩) | (go_at_call 144; refine (HW.out _ (K2.out.next b3) (HA.out.below b3)).mono ?_; rintro e w4 ⟨rfl, h4, r4⟩; have l4 := h4.ld31; rw [HF.out] at l4; obtain ⟨n4, B4⟩ := sum_end b3 r4; clear h4 r4 b3) | (go_at_call 301; refine (HL.out _).mono ?_; rintro e w5 ⟨rfl, b5⟩; have n5 := hide ((b5.block _ (lt_heap n4.out)).trans n4.out); have B5 := hide (B4.out.trans (b5.mono B4.out.size)); clear b5) | refine wpList_storeA A25 rfl _ _ rfl _ (hc (digest t)) (by rw [hc_size, hdl]) (hc_one _) rfl rfl (hc zeros) (by rw [hc_size, zeros_len]) 46 n5.out ?_)
  exact bodyPost_ret (v := .agg (hc (digest t))) (resA A25 Tryz.results232 _ _ w.heap.size 46 _ (by rw [hc_size, hdl]) rfl (setRow_heap _ _ _ _ _ _ n5.out)) rfl ⟨rfl, below_setRow B5.out (Nat.le_refl _) _⟩
end
end Go.Proofs.YtppooipamibhoaaGreatDoor
namespace Go.Proofs.YtppooipamibhoaaGreatDoor
open Go.RowKit
open Go.Deep
theorem Hat.rfr {w w' : World} {b c : Nat} {t : List UInt8} (h : Hat w b t) (hb : b ≠ c) (r : Rfr c w w') : Hat w' b t := h.of_block (r.block b h.lt hb)
/-- A hash, turned into a string. -/
theorem conv_row (w : World) (g : Nat) (l : List UInt8) (hl : l.length = 32) (t : TypeId) (hg : w.heap[g]? = some (.cells (hc l) t (0, 0))) :
    (convert 258 9 (.slice (some ⟨g, 0, none⟩) 32 32)).run Tryz.prog w = .ok (.string ⟨l.toArray⟩) w := by
  have := run_convert_bytes_back (P := Tryz.prog) w 258 9 5 ⟨g, 0, none⟩ 32 l Tryz.underlying258 Tryz.underlying5 Tryz.underlying9 (fun j hj => by
    have hadd : (⟨g, 0, none⟩ : Addr).add j = ⟨g, j, none⟩ := by unfold Addr.add; split <;> simp_all
    rw [hadd, cell_of_row w g j _ t (0, 0) hg]
    simp [hc, cellsL, hj])
  rwa [hl] at this
theorem sb_mid {w w1 : World} {A : Obj} {b : Nat} (b1 : Below (w.alloc A).heap.size (w.alloc A) w1) (hb : (w.alloc A).heap.size ≤ b) : Hid (w1.heap[w.heap.size]? = some A) ∧ Hid (Below w.heap.size w w1) ∧ Hid (w.heap.size < b) := by
  have hN : (w.alloc A).heap.size = w.heap.size + 1 := by simp
  rw [hN] at b1 hb
  exact ⟨(b1.block _ (by omega)).trans (heap_alloc_last _ _), ((Below.refl _ _).alloc (Nat.le_refl _) _).trans (b1.mono (by omega)), Nat.lt_of_succ_le hb⟩
theorem sb_next {w w1 w2 : World} {A : Obj} {b : Nat} (n1 : w1.heap[w.heap.size]? = some A) (B1 : Below w.heap.size w w1) (hb : w.heap.size < b) (r : Rfr b w1 w2) : Hid (w2.heap[w.heap.size]? = some A) ∧ Hid (Below w.heap.size w w2) :=
  ⟨(r.block _ (lt_heap n1) (by omega)).trans n1, B1.trans (r.to_below (by omega) B1.size)⟩
theorem sb_last {w w1 w2 : World} {A : Obj} (n1 : w1.heap[w.heap.size]? = some A) (B1 : Below w.heap.size w w1) (r : Below w1.heap.size w1 w2) : Hid (w2.heap[w.heap.size]? = some A) ∧ Hid (Below w.heap.size w w2) :=
  ⟨(r.block _ (lt_heap n1)).trans n1, B1.trans (r.mono B1.size)⟩
section
set_option maxRecDepth 10000
set_option maxHeartbeats 1000000
theorem hsum_nil (w : World) (hK : Kg w) : Calls Tryz.prog 232 #[.pointer none] w fun e w' => e = .returned (.agg (hc (digest []))) ∧ Below w.heap.size w w' := by
  have HK := hide hK
  have HN := hide fun W => new_any W
  have hdl := digest_len []
  generalize hD : digest [] = D at *
  have HD := hide hD
  clear hK hD
  go_enter Tryz.func232, Tryz.ntmps232
  go_wp2_with (first | refine wpList_allocA A25 rfl rfl ?_ | (go_at_call 143; refine (HN.out _).mono ?_; rintro e w1 ⟨b, rfl, h1, b1, hb⟩; obtain ⟨n1, B1, hlt⟩ := sb_mid b1 hb; have H1 := hide h1; clear h1 b1 hb))
  refine (hsum_any b [] w1 (HK.out.next B1.out) (by simp) H1.out).mono ?_
  rintro e w2 ⟨rfl, b2⟩
  obtain ⟨n2, B2⟩ := sb_last n1.out B1.out b2
  clear b2
  rw [HD.out]
  go_wp2_with (refine wpList_storeA A25 rfl _ _ rfl _ (hc D) (by rw [hc_size, hdl]) (hc_one _) rfl rfl (hc zeros) (by rw [hc_size, zeros_len]) 46 n2.out ?_)
  exact bodyPost_ret (v := .agg (hc D)) (resA A25 Tryz.results232 _ _ w.heap.size 46 _ (by rw [hc_size, hdl]) rfl (setRow_heap _ _ _ _ _ _ n2.out)) rfl ⟨rfl, below_setRow B2.out (Nat.le_refl _) _⟩
theorem behind_any (a s : ByteArray) (hs : a.size + s.size < 2305843009213693000) (w : World) (hK : Kg w) : Calls Tryz.prog 256 #[.string a, .string s] w fun e w' => e = .returned (.agg (hc (digest (a.data.toList ++ s.data.toList)))) ∧ Below w.heap.size w w' := by
  have HK := hide hK
  have HN := hide fun W => new_any W
  have hdl := digest_len (a.data.toList ++ s.data.toList)
  have ha : a.data.toList.length = a.size := by simp
  have hsl : s.data.toList.length = s.size := by simp
  generalize hD : digest (a.data.toList ++ s.data.toList) = D at *
  have HD := hide hD
  clear hK hD
  go_enter Tryz.func256, Tryz.ntmps256
  go_wp2_with (first | refine wpList_allocA A25 rfl rfl ?_ | (go_at_call 143; refine (HN.out _).mono ?_; rintro e w1 ⟨b, rfl, h1, b1, hb⟩; obtain ⟨n1, B1, hlt⟩ := sb_mid b1 hb; have H1 := hide h1; clear h1 b1 hb))
  refine (write_any b [] a w1 (HK.out.next B1.out) (by have := hlt.out; have := HK.out.lt; omega) (by simp; omega) H1.out).mono ?_
  rintro e w2 ⟨rfl, h2, r2⟩
  obtain ⟨n2, B2⟩ := sb_next n1.out B1.out hlt.out r2
  have H2 := hide h2
  clear h2 r2 H1 n1 B1
  go_wp2_with fail
  refine (write_any b ([] ++ a.data.toList) s w2 (HK.out.next B2.out) (by have := hlt.out; have := HK.out.lt; omega) (by simp; omega) H2.out).mono ?_
  rintro e w3 ⟨rfl, h3, r3⟩
  obtain ⟨n3, B3⟩ := sb_next n2.out B2.out hlt.out r3
  have H3 := hide h3
  clear h3 r3 H2 n2 B2
  go_wp2_with fail
  refine (hsum_any b ([] ++ a.data.toList ++ s.data.toList) w3 (HK.out.next B3.out) (by simp; omega) H3.out).mono ?_
  rintro e w4 ⟨rfl, b4⟩
  obtain ⟨n4, B4⟩ := sb_last n3.out B3.out b4
  clear b4 H3 n3 B3
  rw [List.nil_append, HD.out]
  go_wp2_with (refine wpList_storeA A25 rfl _ _ rfl _ (hc D) (by rw [hc_size, hdl]) (hc_one _) rfl rfl (hc zeros) (by rw [hc_size, zeros_len]) 46 n4.out ?_)
  exact bodyPost_ret (v := .agg (hc D)) (resA A25 Tryz.results256 _ _ w.heap.size 46 _ (by rw [hc_size, hdl]) rfl (setRow_heap _ _ _ _ _ _ n4.out)) rfl ⟨rfl, below_setRow B4.out (Nat.le_refl _) _⟩
theorem sum_any (s : ByteArray) (hs : s.size < 2305843009213693000) (w : World) (hK : Kg w) : Calls Tryz.prog 182 #[.string s] w fun e w' => e = .returned (.agg (hc (digest s.data.toList))) ∧ Below w.heap.size w w' := by
  have HB := hide fun W hW => behind_any ⟨#[]⟩ s (by show 0 + s.size < _; omega) W hW
  have hdl := digest_len s.data.toList
  rw [show (⟨#[]⟩ : ByteArray).data.toList ++ s.data.toList = s.data.toList from rfl] at HB
  have K2 := hide (hK.next ((Below.refl w.heap.size w).alloc (Nat.le_refl _) (.cells (hc zeros) 46)))
  generalize digest s.data.toList = D at *
  clear hK
  go_enter Tryz.func182, Tryz.ntmps182
  go_wp2_with (first | refine wpList_allocA A25 rfl rfl ?_ | (go_at_call 256; refine (HB.out _ K2.out).mono ?_; rintro e w1 ⟨rfl, b1⟩; obtain ⟨n1, B1, hlt⟩ := sb_mid b1 (Nat.le_refl _); clear b1 hlt) | refine wpList_storeA A25 rfl _ _ rfl _ (hc D) (by rw [hc_size, hdl]) (hc_one _) rfl rfl (hc zeros) (by rw [hc_size, zeros_len]) 46 n1.out ?_)
  exact bodyPost_ret (v := .agg (hc D)) (resA A25 Tryz.results182 _ _ w.heap.size 46 _ (by rw [hc_size, hdl]) rfl (setRow_heap _ _ _ _ _ _ n1.out)) rfl ⟨rfl, below_setRow B1.out (Nat.le_refl _) _⟩
end
end Go.Proofs.YtppooipamibhoaaGreatDoor
