/- The law's one, whatever the kind of the act. -/
import Derived.Test.YthnfpdmhjennlaaV35
namespace Go.Proofs.Ythnfpdmhjennlaa
open Go.RowKit
open Go.Deep
open Go.Lib
set_option linter.unusedVariables false
theorem one_any {gd nn : Nat} {x : St} {K T : Nat → Prop} {mv : Value} {w : World} (h : DK w gd x T) (hm : isD K w mv x) (hTK : ∀ g, T g → K g) (hKl : ∀ g, K g → g < w.heap.size) (G : Gd x nn) (hnn : nn ≤ 9000) (kv atv nv : Int) (nm tn s : ByteArray) (pa : Option Addr) (pn pc : Nat) (P : List Fl) (hp : LXK KFl T w (.slice pa pn pc) P) (hpP : okP P) (hpz : P.length * 32 ≤ 140737488355328) (ha1 : -9223372036854775808 ≤ atv) (ha2 : atv < 9223372036854775808) (hn1 : -9223372036854775808 ≤ nv) (hn2 : nv < 9223372036854775808) (hs1 : nm.size ≤ maxLen) (hs2 : tn.size ≤ maxLen) (hs3 : s.size ≤ maxLen) : Calls Try.prog 6 #[.pointer (some ⟨gd, 0, none⟩), mv, .agg #[.int .i64 kv, .int .i64 atv, .int .i64 nv, .string nm, .string tn, .string s, .slice pa pn pc]] w (OneP w K T (nn + 1)) := by
  by_cases h0 : kv = 0
  · subst h0; exact one_0 h hm hTK hKl G hnn atv nv nm tn s pa pn pc ha1 ha2 hn1 hn2 hs1 hs2 hs3
  by_cases h1 : kv = 1
  · subst h1; exact one_1 h hm hTK hKl G hnn atv nv nm tn s pa pn pc ha1 ha2 hn1 hn2 hs1 hs2 hs3
  by_cases h2 : kv = 2
  · subst h2; exact one_2 h hm hTK hKl G hnn atv nv nm tn s pa pn pc ha1 ha2 hn1 hn2 hs1 hs2 hs3
  by_cases h3 : kv = 3
  · subst h3; exact one_3 h hm hTK hKl G hnn atv nv nm tn s pa pn pc ha1 ha2 hn1 hn2 hs1 hs2 hs3
  by_cases h4 : kv = 4
  · subst h4; exact one_4 h hm hTK hKl G hnn atv nv nm tn s pa pn pc ha1 ha2 hn1 hn2 hs1 hs2 hs3
  by_cases h5 : kv = 5
  · subst h5; exact one_5 h hm hTK hKl G hnn atv nv nm tn s pa pn pc ha1 ha2 hn1 hn2 hs1 hs2 hs3
  by_cases h6 : kv = 6
  · subst h6; exact one_6 h hm hTK hKl G hnn atv nv nm tn s pa pn pc ha1 ha2 hn1 hn2 hs1 hs2 hs3
  by_cases h7 : kv = 7
  · subst h7; exact one_7 h hm hTK hKl G hnn atv nv nm tn s pa pn pc ha1 ha2 hn1 hn2 hs1 hs2 hs3
  by_cases h8 : kv = 8
  · subst h8; exact one_8 h hm hTK hKl G hnn atv nv nm tn s pa pn pc P hp hpP hpz ha1 ha2 hn1 hn2 hs1 hs2 hs3
  exact one_9 kv h0 h1 h2 h3 h4 h5 h6 h7 h8 h hm hTK hKl G hnn atv nv nm tn s pa pn pc ha1 ha2 hn1 hn2 hs1 hs2 hs3
/-- An act, with its plan's slice. -/
structure Az where
  k : Int
  pos : Int
  n : Int
  nm : ByteArray
  tn : ByteArray
  s : ByteArray
  pa : Option Addr
  pn : Nat
  pc : Nat
def Az.cells (a : Az) : List Value := [.int .i64 a.k, .int .i64 a.pos, .int .i64 a.n, .string a.nm, .string a.tn, .string a.s, .slice a.pa a.pn a.pc]
def KAz : Ek Az := ⟨22, 35, 7, 96, Az.cells, by decide, by decide, Try.underlying22, by kernel_rfl, fun _ => rfl, fun x v hv => by
  unfold Az.cells at hv
  simp only [List.mem_cons, List.not_mem_nil, or_false] at hv
  rcases hv with rfl | rfl | rfl | rfl | rfl | rfl | rfl <;> rfl⟩
/-- An act as it comes in. -/
structure AzOk (W : World) (a : Az) (P : List Fl) : Prop where
  plan : LX KFl W (.slice a.pa a.pn a.pc) P
  ok : okP P
  pz : P.length * 32 ≤ 140737488355328
  p1 : -9223372036854775808 ≤ a.pos
  p2 : a.pos < 9223372036854775808
  n1 : -9223372036854775808 ≤ a.n
  n2 : a.n < 9223372036854775808
  s1 : a.nm.size ≤ maxLen
  s2 : a.tn.size ≤ maxLen
  s3 : a.s.size ≤ maxLen
/-- What says answers (text Dwn). -/
def SaysP : Prop := ∀ (gd nn : Nat) (x : St) (T : Nat → Prop) (mv : Value) (w : World) (h : DK w gd x T) (hm : isD T w mv x) (G : Gd x nn) (kv atv nv : Int) (nm tn s : ByteArray) (pa : Option Addr) (pn pc : Nat) (hs1 : nm.size ≤ maxLen), Calls Try.prog 7 #[.pointer (some ⟨gd, 0, none⟩), mv, .agg #[.int .i64 kv, .int .i64 atv, .int .i64 nv, .string nm, .string tn, .string s, .slice pa pn pc]] w fun e w' => e = .returned (.bool true) ∧ Below w.heap.size w w'
/-- The loop of the law: the disk, the document's disk in its block, what is true of both. -/
structure Jp (w W : World) (b4 gd : Nat) (x : St) (T : Nat → Prop) (arr : Array Value) (k : Nat) : Prop where
  dk : DK W gd x T
  dd : isD (fun g => T g ∨ g = b4) W (.agg arr) x
  row : W.heap[b4]? = some (.cells arr 30 (0, 0))
  nt : ¬ T b4
  far : ∀ g, T g → w.heap.size ≤ g
  gd : Gd x k
  bel : Below w.heap.size w W
  fb : w.heap.size ≤ b4
theorem Jp.next {w W W' : World} {b4 gd : Nat} {x : St} {T : Nat → Prop} {arr : Array Value} {k : Nat} (h : Jp w W b4 gd x T arr k) (b : Below W.heap.size W W') : Jp w W' b4 gd x T arr k :=
  ⟨h.dk.below b, h.dd.next b, (b.block _ (lt_heap h.row)).trans h.row, h.nt, h.far, h.gd, below_next h.bel b, h.fb⟩
theorem LX.ag {α : Type} {E : Ek α} {w w' : World} {v : Value} {L : List α} (h : LX E w v L) (hs : w.heap.size ≤ w'.heap.size) (e : ∀ k, k < w.heap.size → w'.heap[k]? = w.heap[k]?) : LX E w' v L := by
  obtain ⟨ao, cap, rfl, h2, h3⟩ := h
  refine ⟨ao, cap, rfl, h2, fun i hi => ?_⟩
  obtain ⟨g, off, e1, hg, hr⟩ := h3 i hi
  refine ⟨g, off, e1, Nat.lt_of_lt_of_le hg hs, fun j v hv => ?_⟩
  have := hr j v hv
  rw [← this]
  exact World.cell?_of_block (e g hg)
theorem ld_az {W : World} {g off : Nat} {a : Az} (hr : W.rangeAt g off a.cells) : (Instr.loadAt 35 (.pointer (some ⟨g, off, none⟩))).run Try.prog W = .ok (.agg #[.int .i64 a.k, .int .i64 a.pos, .int .i64 a.n, .string a.nm, .string a.tn, .string a.s, .slice a.pa a.pn a.pc]) W :=
  KAz.load a Try.underlying35 rfl hr
theorem x0_gd : Gd x0 0 := ⟨Vd.x0, ⟨[], Rep.nil⟩, fun k hk => (by cases hk), ⟨Nat.zero_le _, fun f hf => (by cases hf)⟩, Nat.zero_le _, Nat.le_refl _, Nat.le_refl _⟩
theorem ex_ldA {w : World} {o : Oper} {a : Act} (x : Operand) {t : TypeId} (ho : o.op = .load t x) {v c : Value} (hx : a.eval x = v) (hr : (Instr.loadAt t v).run Try.prog w = .ok c w) : (execOp a.eval o).run Try.prog w = .ok (.value c) w := by
  unfold execOp
  simp only [ho, hx, hr, Sem.run_bind, Result.andThen_ok, Sem.run_pure]
section
set_option maxRecDepth 10000
set_option maxHeartbeats 8000000
theorem diskPlays_walk0 (HS0 : SaysP) (v : Value) (L : List Az) (w : World) (hv : LX KAz w v L) (hl : L.length ≤ 4611686018427387904) (hA : ∀ a ∈ L, ∃ P, AzOk w a P) : Calls Try.prog 3 #[v] w fun e w' => e = .returned (.bool true) ∧ Below w.heap.size w w' := by
  have HV := hide hv
  obtain ⟨ao, cc, rfl⟩ := hv.form
  have HL := hide hl
  have HA := hide hA
  have HAw := hide (fun W => awake_any W)
  have HN := hide (fun W => new_any W)
  have HSa : Hid SaysP := HS0
  clear hv hl hA
  go_enter Try.func3, Try.ntmps3
  go_upto_region 2 with (go_at_call 4; refine (HN.out _).mono ?_; rintro e W1 ⟨rfl, d1, b1⟩; have D1 := hide d1; have B1 := hide b1; clear d1 b1)
  generalize hgd : w.heap.size = g0 at *
  go_upto_region 4 with (go_at_call 5; refine (HAw.out _).mono ?_; rintro e W2 ⟨rfl, b2⟩; have B2 := hide b2; clear b2)
  have D2 := hide (D1.out.below B2.out)
  have L2 := hide B2.out.size
  go_upto_region 5 with ((with_reducible refine at_list ?_); first | refine wpList_allocA ADd rfl rfl ?_ | refine wpList_store_newA ADd rfl _ _ rfl _ rfl (dcs (.slice none 0 0) (.slice none 0 0) 0 (.slice none 0 0) false) rfl (by simp [dcs, Value.oneCell']) rfl rfl ?_)
  simp only [Act.put]
  obtain ⟨zd, hzd⟩ : ∃ zd, zd = dcs (.slice none 0 0) (.slice none 0 0) 0 (.slice none 0 0) false := ⟨_, rfl⟩
  have J0 : Hid (Jp w (W2.alloc (.cells (dcs (.slice none 0 0) (.slice none 0 0) 0 (.slice none 0 0) false) 30)) W2.heap.size g0 x0 (fun g => g = g0) (dcs (.slice none 0 0) (.slice none 0 0) 0 (.slice none 0 0) false) 0) := by
    have h1 : g0 < W2.heap.size := D2.out.lt g0 rfl
    have h0 : w.heap.size ≤ W2.heap.size := by rw [hgd]; omega
    refine ⟨D2.out.below ((Below.refl _ _).alloc (Nat.le_refl _) _), ⟨_, _, _, [], rfl, LXK.nil _, Rep.nil, LXK.nil _, LXK.nil _⟩, heap_alloc_last _ _, fun e => by omega, fun g hg => by rw [hgd, hg]; exact Nat.le_refl _, x0_gd, ?_, h0⟩
    have h2 := B1.out
    rw [← hgd] at h2
    exact (below_next h2 B2.out).alloc h0 _
  clear D1 D2 B1 B2 hzd
  generalize W2.alloc (.cells (dcs (.slice none 0 0) (.slice none 0 0) 0 (.slice none 0 0) false) 30) = W3 at *
  generalize W2.heap.size = b4 at *
  go_wp2
  go_loopw [3, 5, 6] (fun vd i sm wr => ∃ k : Nat, k ≤ L.length ∧ k ≤ 80 ∧ i = .int .i64 (k : Int) ∧ ∃ gd x T arr, vd = .pointer (some ⟨gd, 0, none⟩) ∧ Hid (Jp w wr b4 gd x T arr k)) (fun _ i _ _ => (L.length - intOf i).toNat)
  case atStart => exact ⟨0, Nat.zero_le _, Nat.zero_le _, rfl, g0, x0, _, _, rfl, J0⟩
  case round =>
    clear J0
    obtain ⟨k, hk, hk8, rfl, gd, x, T, arr, rfl, J⟩ := hrel
    have h0 : (0 : Int) ≤ (k : Int) := by omega
    by_cases hlt : k < L.length ∧ k < 80
    · obtain ⟨hlt, h80⟩ := hlt
      obtain ⟨g, off, rfl⟩ := HV.out.base (by omega)
      have hr := HV.out.range k hlt
      have gl := HV.out.lt (by omega)
      have h2 : (k : Int) < L.length := by omega
      have h8 : (k : Int) < 80 := by omega
      have e1 : IntKind.i64.wrap ((k : Int) + 1) = k + 1 := wrapI _ (by omega) (by omega)
      have AO : Hid (∃ P, AzOk w L[k] P) := HA.out _ (List.getElem_mem hlt)
      have HR : Hid (w.rangeAt g (off + k * 7) L[k].cells) := hr
      have GL := hide gl
      generalize L[k] = a at *
      have LT := hide (And.intro hlt h80)
      clear hr gl hlt h80 hk hk8
      obtain ⟨P, AZ⟩ := AO.out
      have FR : Hid (∀ W, Below w.heap.size w W → W.rangeAt g (off + k * 7) a.cells) := fun W b => rangeX_below HR.out b GL.out
      obtain ⟨ao5, n5, cs5, al5, cl5, ap5, cp5, e5⟩ := J.out.dd.form
      rw [Value.agg.injEq] at e5
      subst e5
      go_upto_region 9 with fail
      have JD := hide (J.out.next (Below.refl wr.heap.size wr).drew)
      refine wp_region_held_drew (S := fun W => W.rangeAt g (off + k * 7) a.cells) (by kernel_rfl) (FR.out _ J.out.bel.drew) (fun hH => ?_)
      clear J
      refine wpAnyH_take (i := 0) (v := .pointer (some ⟨gd, 0, none⟩)) rfl (by kernel_rfl) (by kernel_rfl) (by kernel_rfl) (fun _ _ _ h => h) (yl_move (by rfl) _ (by rfl) _ (by rfl)) hH ?_
      change wpAnyH _ _ _ _ _ _ _ (Act.put _ (some 26) _) _
      simp only [Act.put, List.setIfInBounds_toArray, List.set_cons_zero, List.set_cons_succ]
      refine wpAnyH_take (i := 2) (v := .slice (some ⟨g, off, none⟩) L.length cc) rfl (by kernel_rfl) (by kernel_rfl) (by kernel_rfl) (fun _ _ _ h => h) (yl_move (by rfl) _ (by rfl) _ (by rfl)) hH ?_
      change wpAnyH _ _ _ _ _ _ _ (Act.put _ (some 28) _) _
      simp only [Act.put, List.setIfInBounds_toArray, List.set_cons_zero, List.set_cons_succ]
      refine wpAnyH_take (i := 3) (v := .int .i64 (k : Int)) rfl (by kernel_rfl) (by kernel_rfl) (by kernel_rfl) (fun _ _ _ h => h) (yl_move (by rfl) _ (by rfl) _ (by rfl)) hH ?_
      change wpAnyH _ _ _ _ _ _ _ (Act.put _ (some 29) _) _
      simp only [Act.put, List.setIfInBounds_toArray, List.set_cons_zero, List.set_cons_succ]
      refine wpAnyH_take (i := 4) (v := .pointer (some ⟨g, off + k * 7, none⟩)) rfl (by kernel_rfl) (by kernel_rfl) (by kernel_rfl) (fun _ _ _ h => h) (.inl ⟨by rfl, fun W _ => by go_simp⟩) hH ?_
      change wpAnyH _ _ _ _ _ _ _ (Act.put _ (some 30) _) _
      simp only [Act.put, List.setIfInBounds_toArray, List.set_cons_zero, List.set_cons_succ]
      refine wpAnyH_take (i := 5) (v := .agg #[.int .i64 a.k, .int .i64 a.pos, .int .i64 a.n, .string a.nm, .string a.tn, .string a.s, .slice a.pa a.pn a.pc]) rfl (by kernel_rfl) (by kernel_rfl) (by kernel_rfl) (fun _ _ _ h => h) (yl_load (by rfl) _ (by rfl) _ _ (by rfl) (fun W hS => ld_az hS)) hH ?_
      change wpAnyH _ _ _ _ _ _ _ (Act.put _ (some 31) _) _
      simp only [Act.put, List.setIfInBounds_toArray, List.set_cons_zero, List.set_cons_succ]
      generalize wr.drew = wd at *
      refine wpAnyH_ready (rs := [1]) (by kernel_rfl) (by simp) (AllReadyH.cons rfl (fun K1 hK1 => ?_) AllReadyH.nil)
      refine step_run (by rfl) (ex_ldA _ (by rfl) (by rfl) (ld_row ADd rfl JD.out.row)) ?_
      refine hK1.out _ _ (FR.out _ JD.out.bel) (fun hH => ?_)
      clear hK1
      change wpAnyH _ _ _ _ _ _ _ (Act.put _ (some 27) _) _
      simp only [Act.put, List.setIfInBounds_toArray, List.set_cons_zero, List.set_cons_succ]
      have LPz : LXK KFl T wd (.slice a.pa a.pn a.pc) P := fun w2 q => AZ.plan.ag (Nat.le_trans JD.out.bel.size q.1) (fun j hj => (q.2 j (Nat.lt_of_lt_of_le hj JD.out.bel.size) (fun c => by have := JD.out.far j c; omega)).trans (JD.out.bel.block j hj))
      refine wpAnyH_ready (rs := [6]) (by kernel_rfl) (by simp) (AllReadyH.cons rfl (fun K1 hK1 => ?_) AllReadyH.nil)
      go_simp
      refine (one_any JD.out.dk JD.out.dd (fun q hq => .inl hq) (fun q hq => hq.elim (fun c => JD.out.dk.lt q c) (fun c => c ▸ lt_heap JD.out.row)) JD.out.gd (by have := LT.out.2; omega) a.k a.pos a.n a.nm a.tn a.s a.pa a.pn a.pc P LPz AZ.ok AZ.pz AZ.p1 AZ.p2 AZ.n1 AZ.n2 AZ.s1 AZ.s2 AZ.s3).mono ?_
      rintro e W5 ⟨gd6, x6, T6, mv6, rfl, d6, m6, G6, f6, far6⟩
      obtain ⟨ao6, n6, cs6, al6, cl6, ap6, cp6, rfl⟩ := m6.form
      have b4l := lt_heap JD.out.row
      have B5 : Hid (Below w.heap.size w W5) := JD.out.bel.trans (f6.below JD.out.bel.size JD.out.far)
      have R5 := hide ((f6.block b4 b4l JD.out.nt).trans JD.out.row)
      have nt6 : ¬ T6 b4 := fun c => by
        rcases far6 b4 c with c | c
        · exact JD.out.nt c
        · omega
      have FB := hide JD.out.fb
      have J6 : Hid (Jp w (W5.setRow b4 #[.slice ao6 n6 cs6, .slice al6 x6.loose.length cl6, .int .i64 (x6.made : Int), .slice ap6 x6.plan.length cp6, .bool x6.dead]) b4 gd6 x6 T6 #[.slice ao6 n6 cs6, .slice al6 x6.loose.length cl6, .int .i64 (x6.made : Int), .slice ap6 x6.plan.length cp6, .bool x6.dead] (k + 1)) := ⟨d6.keep (by simp) (fun q hq => setRow_other _ _ _ _ (fun e => nt6 (e ▸ hq))), by
        exact (m6.write (Fr.setRow (S := fun g => T6 g ∨ (T g ∨ g = b4)) W5 (.inr (.inr rfl)) _)).mono (fun q hq => hq.elim .inl (fun c => .inr (.inr c))), setRow_heap _ _ _ _ _ _ R5.out, nt6, fun q hq => by
        rcases far6 q hq with c | c
        · exact JD.out.far q c
        · have := JD.out.bel.size; omega, G6, below_setRow B5.out FB.out _, FB.out⟩
      clear d6 m6 G6 f6 far6 nt6 b4l LPz
      refine hK1.out _ _ (FR.out _ B5.out) (fun hH => ?_)
      clear hK1
      refine wpAnyH_take (i := 7) (v := .tuple #[.pointer (some ⟨gd6, 0, none⟩), .agg #[.slice ao6 n6 cs6, .slice al6 x6.loose.length cl6, .int .i64 (x6.made : Int), .slice ap6 x6.plan.length cp6, .bool x6.dead], .bool true]) rfl (by kernel_rfl) (by kernel_rfl) (by kernel_rfl) (fun _ _ _ h => h) (yl_move (by rfl) _ (by rfl) _ (by rfl)) hH ?_
      change wpAnyH _ _ _ _ _ _ _ (Act.put _ (some 25) _) _
      simp only [Act.put, List.setIfInBounds_toArray, List.set_cons_zero, List.set_cons_succ]
      refine wpAnyH_take (i := 8) (v := .pointer (some ⟨gd6, 0, none⟩)) rfl (by kernel_rfl) (by kernel_rfl) (by kernel_rfl) (fun _ _ _ h => h) (.inl ⟨by rfl, fun W _ => by go_simp⟩) hH ?_
      change wpAnyH _ _ _ _ _ _ _ (Act.put _ (some 33) _) _
      simp only [Act.put, List.setIfInBounds_toArray, List.set_cons_zero, List.set_cons_succ]
      refine wpAnyH_take (i := 9) (v := .agg #[.slice ao6 n6 cs6, .slice al6 x6.loose.length cl6, .int .i64 (x6.made : Int), .slice ap6 x6.plan.length cp6, .bool x6.dead]) rfl (by kernel_rfl) (by kernel_rfl) (by kernel_rfl) (fun _ _ _ h => h) (.inl ⟨by rfl, fun W _ => by go_simp⟩) hH ?_
      change wpAnyH _ _ _ _ _ _ _ (Act.put _ (some 34) _) _
      simp only [Act.put, List.setIfInBounds_toArray, List.set_cons_zero, List.set_cons_succ]
      refine wpAnyH_take (i := 10) (v := .bool true) rfl (by kernel_rfl) (by kernel_rfl) (by kernel_rfl) (fun _ _ _ h => h) (.inl ⟨by rfl, fun W _ => by go_simp⟩) hH ?_
      change wpAnyH _ _ _ _ _ _ _ (Act.put _ (some 35) _) _
      simp only [Act.put, List.setIfInBounds_toArray, List.set_cons_zero, List.set_cons_succ]
      refine wpAnyH_take (i := 11) (v := .pointer (some ⟨gd6, 0, none⟩)) rfl (by kernel_rfl) (by kernel_rfl) (by kernel_rfl) (fun _ _ _ h => h) (.inl ⟨by rfl, fun W _ => by go_simp⟩) hH ?_
      change wpAnyH _ _ _ _ _ _ _ (Act.put _ (some 3) _) _
      simp only [Act.put, List.setIfInBounds_toArray, List.set_cons_zero, List.set_cons_succ]
      refine wpAnyH_ready (rs := [12]) (by kernel_rfl) (by simp) (AllReadyH.cons rfl (fun K1 hK1 => ?_) AllReadyH.nil)
      refine stepStoreA ADd (by rfl) _ _ (by rfl) b4 #[.slice ao6 n6 cs6, .slice al6 x6.loose.length cl6, .int .i64 (x6.made : Int), .slice ap6 x6.plan.length cp6, .bool x6.dead] (by rfl) (by simp [Value.oneCell']) (by rfl) (by rfl) _ (by rfl) _ R5.out ?_
      refine hK1.out _ _ (FR.out _ J6.out.bel) (fun hH => ?_)
      clear hK1
      change wpAnyH _ _ _ _ _ _ _ (Act.put _ none _) _
      simp only [Act.put]
      refine wpAnyH_take (i := 13) (v := .bool true) rfl (by kernel_rfl) (by kernel_rfl) (by kernel_rfl) (fun _ _ _ h => h) (.inl ⟨by rfl, fun W _ => by go_simp⟩) hH ?_
      change wpAnyH _ _ _ _ _ _ _ (Act.put _ (some 6) _) _
      simp only [Act.put, List.setIfInBounds_toArray, List.set_cons_zero, List.set_cons_succ]
      refine wpAnyH_done (by kernel_rfl) ?_ _
      clear R5 B5 JD
      generalize W5.setRow b4 #[.slice ao6 n6 cs6, .slice al6 x6.loose.length cl6, .int .i64 (x6.made : Int), .slice ap6 x6.plan.length cp6, .bool x6.dead] = W6 at *
      have HSy : Hid (∀ W, Jp w W b4 gd6 x6 T6 #[.slice ao6 n6 cs6, .slice al6 x6.loose.length cl6, .int .i64 (x6.made : Int), .slice ap6 x6.plan.length cp6, .bool x6.dead] (k + 1) → Calls Try.prog 7 #[.pointer (some ⟨gd6, 0, none⟩), .agg #[.slice ao6 n6 cs6, .slice al6 x6.loose.length cl6, .int .i64 (x6.made : Int), .slice ap6 x6.plan.length cp6, .bool x6.dead], .agg #[.int .i64 a.k, .int .i64 a.pos, .int .i64 a.n, .string a.nm, .string a.tn, .string a.s, .slice a.pa a.pn a.pc]] W fun e w' => e = .returned (.bool true) ∧ Below W.heap.size W w') := fun W j => HSa.out gd6 (k + 1) x6 T6 _ W j.dk (j.dd.mono (fun q hq => .inl hq)) j.gd a.k a.pos a.n a.nm a.tn a.s a.pa a.pn a.pc AZ.s1
      have HLA : Hid (∀ W, W.rangeAt g (off + k * 7) a.cells → (Instr.loadAt 35 (.pointer (some ⟨g, off + k * 7, none⟩))).run Try.prog W = .ok (.agg #[.int .i64 a.k, .int .i64 a.pos, .int .i64 a.n, .string a.nm, .string a.tn, .string a.s, .slice a.pa a.pn a.pc]) W) := fun W h => ld_az h
      have Z6 : Hid ((#[.slice ao6 n6 cs6, .slice al6 x6.loose.length cl6, .int .i64 (x6.made : Int), .slice ap6 x6.plan.length cp6, .bool x6.dead] : Array Value).size = 5) := rfl
      generalize (#[.int .i64 a.k, .int .i64 a.pos, .int .i64 a.n, .string a.nm, .string a.tn, .string a.s, .slice a.pa a.pn a.pc] : Array Value) = CA at *
      generalize (#[.slice ao6 n6 cs6, .slice al6 x6.loose.length cl6, .int .i64 (x6.made : Int), .slice ap6 x6.plan.length cp6, .bool x6.dead] : Array Value) = A6 at *
      go_upto_region 10 with fail
      have J7 := hide (J6.out.next (Below.refl W6.heap.size W6).drew)
      refine wp_region_held_drew (S := fun W => W.rangeAt g (off + k * 7) a.cells ∧ W.heap[b4]? = some (.cells A6 30 (0, 0))) (by kernel_rfl) ⟨FR.out _ J7.out.bel, J7.out.row⟩ (fun hH => ?_)
      clear J6
      generalize W6.drew = W7 at *
      refine wpAnyH_take (i := 0) (v := .bool true) rfl (by kernel_rfl) (by kernel_rfl) (by kernel_rfl) (fun _ _ _ h => h) (yl_move (by rfl) _ (by rfl) _ (by rfl)) hH ?_
      change wpAnyH _ _ _ _ _ _ _ (Act.put _ (some 36) _) _
      simp only [Act.put, List.setIfInBounds_toArray, List.set_cons_zero, List.set_cons_succ]
      refine wpAnyH_take (i := 1) (v := .bool false) rfl (by kernel_rfl) (by kernel_rfl) (by kernel_rfl) (fun _ _ _ h => h) (.inl ⟨by rfl, fun W _ => by go_simp⟩) hH ?_
      change wpAnyH _ _ _ _ _ _ _ (Act.put _ (some 37) _) _
      simp only [Act.put, List.setIfInBounds_toArray, List.set_cons_zero, List.set_cons_succ]
      refine wpAnyH_take (i := 2) (v := .bool false) rfl (by kernel_rfl) (by kernel_rfl) (by kernel_rfl) (fun _ _ _ h => h) (yl_move (by rfl) _ (by rfl) _ (by rfl)) hH ?_
      change wpAnyH _ _ _ _ _ _ _ (Act.put _ (some 38) _) _
      simp only [Act.put, List.setIfInBounds_toArray, List.set_cons_zero, List.set_cons_succ]
      refine wpAnyH_take (i := 3) (v := .pointer (some ⟨gd6, 0, none⟩)) rfl (by kernel_rfl) (by kernel_rfl) (by kernel_rfl) (fun _ _ _ h => h) (yl_move (by rfl) _ (by rfl) _ (by rfl)) hH ?_
      change wpAnyH _ _ _ _ _ _ _ (Act.put _ (some 39) _) _
      simp only [Act.put, List.setIfInBounds_toArray, List.set_cons_zero, List.set_cons_succ]
      refine wpAnyH_take (i := 4) (v := .agg A6) rfl (by kernel_rfl) (by kernel_rfl) (by kernel_rfl) (fun _ _ _ h => h) (yl_load (by rfl) _ (by rfl) _ _ (by rfl) (fun W hS => ld_row ADd Z6.out hS.2)) hH ?_
      change wpAnyH _ _ _ _ _ _ _ (Act.put _ (some 40) _) _
      simp only [Act.put, List.setIfInBounds_toArray, List.set_cons_zero, List.set_cons_succ]
      refine wpAnyH_take (i := 5) (v := .slice (some ⟨g, off, none⟩) L.length cc) rfl (by kernel_rfl) (by kernel_rfl) (by kernel_rfl) (fun _ _ _ h => h) (yl_move (by rfl) _ (by rfl) _ (by rfl)) hH ?_
      change wpAnyH _ _ _ _ _ _ _ (Act.put _ (some 41) _) _
      simp only [Act.put, List.setIfInBounds_toArray, List.set_cons_zero, List.set_cons_succ]
      refine wpAnyH_take (i := 6) (v := .int .i64 (k : Int)) rfl (by kernel_rfl) (by kernel_rfl) (by kernel_rfl) (fun _ _ _ h => h) (yl_move (by rfl) _ (by rfl) _ (by rfl)) hH ?_
      change wpAnyH _ _ _ _ _ _ _ (Act.put _ (some 42) _) _
      simp only [Act.put, List.setIfInBounds_toArray, List.set_cons_zero, List.set_cons_succ]
      refine wpAnyH_take (i := 7) (v := .pointer (some ⟨g, off + k * 7, none⟩)) rfl (by kernel_rfl) (by kernel_rfl) (by kernel_rfl) (fun _ _ _ h => h) (.inl ⟨by rfl, fun W _ => by go_simp⟩) hH ?_
      change wpAnyH _ _ _ _ _ _ _ (Act.put _ (some 43) _) _
      simp only [Act.put, List.setIfInBounds_toArray, List.set_cons_zero, List.set_cons_succ]
      refine wpAnyH_take (i := 8) (v := .agg CA) rfl (by kernel_rfl) (by kernel_rfl) (by kernel_rfl) (fun _ _ _ h => h) (yl_load (by rfl) _ (by rfl) _ _ (by rfl) (fun W hS => HLA.out W hS.1)) hH ?_
      change wpAnyH _ _ _ _ _ _ _ (Act.put _ (some 44) _) _
      simp only [Act.put, List.setIfInBounds_toArray, List.set_cons_zero, List.set_cons_succ]
      refine wpAnyH_ready (rs := [9]) (by kernel_rfl) (by simp) (AllReadyH.cons rfl (fun K1 hK1 => ?_) AllReadyH.nil)
      go_simp
      refine (HSy.out W7 J7.out).mono ?_
      rintro e W8 ⟨rfl, b8⟩
      have J8 := hide (J7.out.next b8)
      clear b8 J7
      refine hK1.out _ _ ⟨FR.out _ J8.out.bel, J8.out.row⟩ (fun hH => ?_)
      clear hK1
      refine wpAnyH_take (i := 10) (v := .bool false) rfl (by kernel_rfl) (by kernel_rfl) (by kernel_rfl) (fun _ _ _ h => h) (.inl ⟨by rfl, fun W _ => by go_simp⟩) hH ?_
      change wpAnyH _ _ _ _ _ _ _ (Act.put _ (some 46) _) _
      simp only [Act.put, List.setIfInBounds_toArray, List.set_cons_zero, List.set_cons_succ]
      refine wpAnyH_take (i := 11) (v := .bool false) rfl (by kernel_rfl) (by kernel_rfl) (by kernel_rfl) (fun _ _ _ h => h) (.inl ⟨by rfl, fun W _ => by go_simp⟩) hH ?_
      change wpAnyH _ _ _ _ _ _ _ (Act.put _ (some 47) _) _
      simp only [Act.put, List.setIfInBounds_toArray, List.set_cons_zero, List.set_cons_succ]
      refine wpAnyH_done (by kernel_rfl) ?_ _
      go_wp2
      go_round
      case rel => exact ⟨k + 1, LT.out.1, LT.out.2, by go_num, gd6, x6, T6, _, rfl, J8⟩
      case measure => have := LT.out.1; simp [intOf]; omega
    · have BE := hide J.out.bel
      clear J
      by_cases c1 : k < L.length
      · have h2 : (k : Int) < L.length := by omega
        have h8 : ¬ (k : Int) < 80 := by omega
        go_wp2
        go_ret
        exact ⟨rfl, by have h9 := BE.out; rw [hgd] at h9; exact h9⟩
      · have h2 : ¬ (k : Int) < L.length := by omega
        go_wp2
        go_ret
        exact ⟨rfl, by have h9 := BE.out; rw [hgd] at h9; exact h9⟩
end
end Go.Proofs.Ythnfpdmhjennlaa
