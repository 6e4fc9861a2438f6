/- The law's one: what is done to both disks; kinds 0 to 6. -/
import Derived.Test.YthnfpdmhjennlaaV33
namespace Go.Proofs.Ythnfpdmhjennlaa
open Go.RowKit
open Go.Deep
open Go.Lib
set_option linter.unusedVariables false
set_option linter.unusedSimpArgs false
section
variable {w : World} {ops : Array Oper} {o : Oper} {a : Act} {K : Act → World → Prop} {Q : Exit → Act → World → Prop} {E0 : Prop} {t : TypeId} {n : Nat} {z : Array Value}
theorem stepStoreA (A : Arr t n z) (hgd : o.guard = none) (x y : Operand) (ho : o.op = .store t x y) (g : Nat) (c : Array Value) (hn : c.size = n) (h1 : c.all (·.oneCell') = true) (hx : a.eval x = .pointer (some ⟨g, 0, none⟩)) (hy : a.eval y = .agg c)
    (c0 : Array Value) (hn0 : c0.size = n) (t' : TypeId) (hg : w.heap[g]? = some (.cells c0 t' (0, 0))) (h : K (a.put o.dst undef) (w.setRow g c)) : if Region.wanted o (yielded ops a.tmps) = true then Oper.wp Try.prog o a w K Q else E0 := by
  have hw : Region.wanted o (yielded ops a.tmps) = true := by simp [Region.wanted, hgd]
  rw [if_pos hw]
  exact wp_store_row t x y ho g c hx hy t' c0 hg (by rw [A.info, hn]) (by rw [hn, hn0]) h1 h
theorem res3b (A : Arr t n z) {fn : Func} {p q r : Tmp} (hf : fn.results = #[.tmp p, .cell q t, .tmp r]) (tmps : Array Value) (w : World) (g : Nat) (t' : TypeId) (c : Array Value) (hn : c.size = n)
    (hp : tmps.getD q undef = .pointer (some ⟨g, 0, none⟩)) (hg : w.heap[g]? = some (.cells c t' (0, 0))) (x : Value) (hx : tmps.getD p undef = x) (y : Value) (hy : tmps.getD r undef = y) : (results fn tmps).run Try.prog w = .ok (.tuple #[x, .agg c, y]) w := by
  subst hx hy
  have hp' : tmps[q]?.getD undef = .pointer (some ⟨g, 0, none⟩) := by simpa using hp
  rcases A.und with ⟨m, e, hd⟩ | ⟨fs, hd⟩ <;> simp [results, hf, hp', asAddr, run_loadVar_row w g t' t c (0, 0) _ hg hd rfl (by rw [A.info, hn])]
end
def zac : Array Value := #[.int .i64 0, .int .i64 0, .int .i64 0, .string ⟨#[]⟩, .string ⟨#[]⟩, .string ⟨#[]⟩, .slice none 0 0]
theorem AAc : Arr 35 7 zac := ⟨.inr ⟨_, Try.underlying35⟩, by kernel_rfl, fun w => by kernel_rfl, fun w => by kernel_rfl, rfl⟩
theorem DK.keep {w w' : World} {gd : Nat} {x : St} {T : Nat → Prop} (h : DK w gd x T) (hs : w.heap.size ≤ w'.heap.size) (e : ∀ g, T g → w'.heap[g]? = w.heap[g]?) : DK w' gd x T := by
  obtain ⟨S1, S2, mn, ms, vo, vp, h⟩ := h
  exact ⟨S1, S2, mn, ms, vo, vp, h.frame hs e⟩
theorem isD.fr {T : Nat → Prop} {w w' : World} {v : Value} {x : St} (h : isD T w v x) (f : Fr T w w') : isD (grow T w w') w' v x := by
  obtain ⟨vs, vl, vp, S, e, h⟩ := h
  exact ⟨vs, vl, vp, S, e, h.sure.fr f, h.rep, h.loose.fr f, h.plan.fr f⟩
theorem Fr.newRow {T : Nat → Prop} {w w' : World} (h : Fr T w w') {g : Nat} (hg : w.heap.size ≤ g) (cs : Array Value) : Fr T w (w'.setRow g cs) :=
  ⟨h.os, h.tape, h.output, by rw [show (w'.setRow g cs).heap.size = w'.heap.size by simp]; exact h.size, fun k hk hn => (setRow_other w' g k cs (by omega)).trans (h.block k hk hn)⟩
/-- What the law's one answers: both disks are alike, and it says so. -/
def OneP (w : World) (K T : Nat → Prop) (m : Nat) (e : Ending) (w' : World) : Prop := ∃ gd' x' T' mv', e = .returned (.tuple #[.pointer (some ⟨gd', 0, none⟩), mv', .bool true]) ∧ DK w' gd' x' T' ∧ isD (fun g => T' g ∨ K g) w' mv' x' ∧ Gd x' m ∧ Fr T w w' ∧ ∀ g, T' g → T g ∨ w.heap.size ≤ g
section
set_option maxRecDepth 10000
set_option maxHeartbeats 8000000
variable {gd nn : Nat} {x : St} {K T : Nat → Prop} {mv : Value} {w : World}
theorem one_0 (h : DK w gd x T) (hm : isD K w mv x) (hTK : ∀ g, T g → K g) (hKl : ∀ g, K g → g < w.heap.size) (G : Gd x nn) (hnn : nn ≤ 9000) (atv nv : Int) (nm tn s : ByteArray) (pa : Option Addr) (pn pc : Nat) (ha1 : -9223372036854775808 ≤ atv) (ha2 : atv < 9223372036854775808) (hn1 : -9223372036854775808 ≤ nv) (hn2 : nv < 9223372036854775808) (hs1 : nm.size ≤ maxLen) (hs2 : tn.size ≤ maxLen) (hs3 : s.size ≤ maxLen) : Calls Try.prog 6 #[.pointer (some ⟨gd, 0, none⟩), mv, .agg #[.int .i64 0, .int .i64 atv, .int .i64 nv, .string nm, .string tn, .string s, .slice pa pn pc]] w (OneP w K T (nn + 1)) := by
  have HTl : ∀ g, T g → g < w.heap.size := h.lt
  obtain ⟨ao, n, cs, al, cl, ap, cp, rfl⟩ := hm.form
  have s1 : (w.alloc (.cells #[.slice ao n cs, .slice al x.loose.length cl, .int .i64 (x.made : Int), .slice ap x.plan.length cp, .bool x.dead] 30)).heap.size = w.heap.size + 1 := by simp
  have s2 : ((w.alloc (.cells #[.slice ao n cs, .slice al x.loose.length cl, .int .i64 (x.made : Int), .slice ap x.plan.length cp, .bool x.dead] 30)).alloc (.cells #[.int .i64 0, .int .i64 atv, .int .i64 nv, .string nm, .string tn, .string s, .slice pa pn pc] 35)).heap.size = w.heap.size + 2 := by simp
  have s3 : (((w.alloc (.cells #[.slice ao n cs, .slice al x.loose.length cl, .int .i64 (x.made : Int), .slice ap x.plan.length cp, .bool x.dead] 30)).alloc (.cells #[.int .i64 0, .int .i64 atv, .int .i64 nv, .string nm, .string tn, .string s, .slice pa pn pc] 35)).alloc (.cells (dcs (.slice none 0 0) (.slice none 0 0) 0 (.slice none 0 0) false) 30)).heap.size = w.heap.size + 3 := by simp
  have r1 : (((w.alloc (.cells #[.slice ao n cs, .slice al x.loose.length cl, .int .i64 (x.made : Int), .slice ap x.plan.length cp, .bool x.dead] 30)).alloc (.cells #[.int .i64 0, .int .i64 atv, .int .i64 nv, .string nm, .string tn, .string s, .slice pa pn pc] 35)).alloc (.cells (dcs (.slice none 0 0) (.slice none 0 0) 0 (.slice none 0 0) false) 30)).heap[w.heap.size]? = some (.cells #[.slice ao n cs, .slice al x.loose.length cl, .int .i64 (x.made : Int), .slice ap x.plan.length cp, .bool x.dead] 30 (0, 0)) := (Below.heap_alloc _ _ _ (by rw [s2]; omega)).trans ((Below.heap_alloc _ _ _ (by rw [s1]; omega)).trans (heap_alloc_last w _))
  have r2 : (((w.alloc (.cells #[.slice ao n cs, .slice al x.loose.length cl, .int .i64 (x.made : Int), .slice ap x.plan.length cp, .bool x.dead] 30)).alloc (.cells #[.int .i64 0, .int .i64 atv, .int .i64 nv, .string nm, .string tn, .string s, .slice pa pn pc] 35)).alloc (.cells (dcs (.slice none 0 0) (.slice none 0 0) 0 (.slice none 0 0) false) 30)).heap[w.heap.size + 1]? = some (.cells #[.int .i64 0, .int .i64 atv, .int .i64 nv, .string nm, .string tn, .string s, .slice pa pn pc] 35 (0, 0)) := by
    have := heap_alloc_last (w.alloc (.cells #[.slice ao n cs, .slice al x.loose.length cl, .int .i64 (x.made : Int), .slice ap x.plan.length cp, .bool x.dead] 30)) (.cells #[.int .i64 0, .int .i64 atv, .int .i64 nv, .string nm, .string tn, .string s, .slice pa pn pc] 35)
    rw [s1] at this
    exact (Below.heap_alloc _ _ _ (by rw [s2]; omega)).trans this
  have r3 : (((w.alloc (.cells #[.slice ao n cs, .slice al x.loose.length cl, .int .i64 (x.made : Int), .slice ap x.plan.length cp, .bool x.dead] 30)).alloc (.cells #[.int .i64 0, .int .i64 atv, .int .i64 nv, .string nm, .string tn, .string s, .slice pa pn pc] 35)).alloc (.cells (dcs (.slice none 0 0) (.slice none 0 0) 0 (.slice none 0 0) false) 30)).heap[w.heap.size + 2]? = some (.cells (dcs (.slice none 0 0) (.slice none 0 0) 0 (.slice none 0 0) false) 30 (0, 0)) := by
    have := heap_alloc_last ((w.alloc (.cells #[.slice ao n cs, .slice al x.loose.length cl, .int .i64 (x.made : Int), .slice ap x.plan.length cp, .bool x.dead] 30)).alloc (.cells #[.int .i64 0, .int .i64 atv, .int .i64 nv, .string nm, .string tn, .string s, .slice pa pn pc] 35)) (.cells (dcs (.slice none 0 0) (.slice none 0 0) 0 (.slice none 0 0) false) 30)
    rw [s2] at this
    exact this
  have hB : Below w.heap.size w (((w.alloc (.cells #[.slice ao n cs, .slice al x.loose.length cl, .int .i64 (x.made : Int), .slice ap x.plan.length cp, .bool x.dead] 30)).alloc (.cells #[.int .i64 0, .int .i64 atv, .int .i64 nv, .string nm, .string tn, .string s, .slice pa pn pc] 35)).alloc (.cells (dcs (.slice none 0 0) (.slice none 0 0) 0 (.slice none 0 0) false) 30)) := (((Below.refl w.heap.size w).alloc (Nat.le_refl _) _).alloc (by rw [s1]; omega) _).alloc (by rw [s2]; omega) _
  have HB := hide hB
  have R1 := hide r1
  have R2 := hide r2
  have R3 := hide r3
  have S3 := hide s3
  have D1 := hide (h.below hB)
  have H1 := hide (hm.up hB)
  have HT := hide HTl
  have HK : Hid (∀ g, grow K w (((w.alloc (.cells #[.slice ao n cs, .slice al x.loose.length cl, .int .i64 (x.made : Int), .slice ap x.plan.length cp, .bool x.dead] 30)).alloc (.cells #[.int .i64 0, .int .i64 atv, .int .i64 nv, .string nm, .string tn, .string s, .slice pa pn pc] 35)).alloc (.cells (dcs (.slice none 0 0) (.slice none 0 0) 0 (.slice none 0 0) false) 30)) g → g < (((w.alloc (.cells #[.slice ao n cs, .slice al x.loose.length cl, .int .i64 (x.made : Int), .slice ap x.plan.length cp, .bool x.dead] 30)).alloc (.cells #[.int .i64 0, .int .i64 atv, .int .i64 nv, .string nm, .string tn, .string s, .slice pa pn pc] 35)).alloc (.cells (dcs (.slice none 0 0) (.slice none 0 0) 0 (.slice none 0 0) false) 30)).heap.size) := grow_lt hKl hB.size
  have HKn : Hid (∀ g, T g → grow K w (((w.alloc (.cells #[.slice ao n cs, .slice al x.loose.length cl, .int .i64 (x.made : Int), .slice ap x.plan.length cp, .bool x.dead] 30)).alloc (.cells #[.int .i64 0, .int .i64 atv, .int .i64 nv, .string nm, .string tn, .string s, .slice pa pn pc] 35)).alloc (.cells (dcs (.slice none 0 0) (.slice none 0 0) 0 (.slice none 0 0) false) 30)) g) := fun g hg => .inl (hTK g hg)
  have HKk : Hid (∀ g, K g → grow K w (((w.alloc (.cells #[.slice ao n cs, .slice al x.loose.length cl, .int .i64 (x.made : Int), .slice ap x.plan.length cp, .bool x.dead] 30)).alloc (.cells #[.int .i64 0, .int .i64 atv, .int .i64 nv, .string nm, .string tn, .string s, .slice pa pn pc] 35)).alloc (.cells (dcs (.slice none 0 0) (.slice none 0 0) 0 (.slice none 0 0) false) 30)) g) := fun g hg => .inl hg
  have HKo : Hid (∀ g, w.heap.size ≤ g → g < w.heap.size + 3 → grow K w (((w.alloc (.cells #[.slice ao n cs, .slice al x.loose.length cl, .int .i64 (x.made : Int), .slice ap x.plan.length cp, .bool x.dead] 30)).alloc (.cells #[.int .i64 0, .int .i64 atv, .int .i64 nv, .string nm, .string tn, .string s, .slice pa pn pc] 35)).alloc (.cells (dcs (.slice none 0 0) (.slice none 0 0) 0 (.slice none 0 0) false) 30)) g) := fun g h1 h2 => .inr ⟨h1, by rw [s3]; omega⟩
  have HG := hide G
  have HX := hide (And.intro ha1 (And.intro ha2 (And.intro hn1 (And.intro hn2 (And.intro hs1 (And.intro hs2 (And.intro hs3 hnn)))))))
  clear hB r1 r2 r3 s3 h hm hTK hKl G HTl ha1 ha2 hn1 hn2 hs1 hs2 hs3 hnn
  generalize grow K w (((w.alloc (.cells #[.slice ao n cs, .slice al x.loose.length cl, .int .i64 (x.made : Int), .slice ap x.plan.length cp, .bool x.dead] 30)).alloc (.cells #[.int .i64 0, .int .i64 atv, .int .i64 nv, .string nm, .string tn, .string s, .slice pa pn pc] 35)).alloc (.cells (dcs (.slice none 0 0) (.slice none 0 0) 0 (.slice none 0 0) false) 30)) = K2 at *
  go_enter Try.func6, Try.ntmps6
  go_upto_region 1 with ((with_reducible refine at_list ?_); first | refine wpList_boxA rfl _ rfl _ rfl ?_ | refine wpList_allocA ADd rfl rfl ?_)
  try rw [s2]
  try rw [s1]
  clear s1 s2
  generalize (((w.alloc (.cells #[.slice ao n cs, .slice al x.loose.length cl, .int .i64 (x.made : Int), .slice ap x.plan.length cp, .bool x.dead] 30)).alloc (.cells #[.int .i64 0, .int .i64 atv, .int .i64 nv, .string nm, .string tn, .string s, .slice pa pn pc] 35)).alloc (.cells (dcs (.slice none 0 0) (.slice none 0 0) 0 (.slice none 0 0) false) 30)) = W1 at *
  generalize hgb : w.heap.size = b0 at *
  have CC : Hid (∀ W : World, W.heap[b0 + 1]? = some (.cells #[.int .i64 0, .int .i64 atv, .int .i64 nv, .string nm, .string tn, .string s, .slice pa pn pc] 35 (0, 0)) → W.cell? ⟨b0 + 1, 0, none⟩ = some (.int .i64 0) ∧ W.cell? ⟨b0 + 1, 1, none⟩ = some (.int .i64 atv) ∧ W.cell? ⟨b0 + 1, 2, none⟩ = some (.int .i64 nv) ∧ W.cell? ⟨b0 + 1, 3, none⟩ = some (.string nm) ∧ W.cell? ⟨b0 + 1, 4, none⟩ = some (.string tn) ∧ W.cell? ⟨b0 + 1, 5, none⟩ = some (.string s) ∧ W.cell? ⟨b0 + 1, 6, none⟩ = some (.slice pa pn pc)) := fun W e => by
    refine ⟨?_, ?_, ?_, ?_, ?_, ?_, ?_⟩ <;> (rw [cell_of_row _ _ _ _ _ _ e]; rfl)
  obtain ⟨c0, c1, c2, c3, c4, c5, c6⟩ := CC.out _ R2.out
  have HKn3 := hide HKn.out
  have HTb : Hid (∀ g, T g → g < b0) := HT.out
  go_upto_region 9 with (go_at_call 8; refine (pwrite_all nm atv s D1.out HG.out.vd HG.out.plan HX.out.2.2.2.2.1 HX.out.2.2.2.2.2.2.1 HX.out.1 HX.out.2.1 (by have := HG.out.many; have := HX.out.2.2.2.2.2.2.2; omega) (by have := HG.out.made; have := HX.out.2.2.2.2.2.2.2; omega)).mono ?_; rintro e W2 ⟨rfl, d2, f2⟩; have D2 := hide d2; have F2 := hide f2; clear d2 f2)
  clear c0 c1 c2 c3 c4 c5 c6
  have bk : ∀ j, j < 3 → W2.heap[b0 + j]? = W1.heap[b0 + j]? := fun j hj => F2.out.block _ (by have := S3.out; omega) (fun c => by have := HTb.out _ c; omega)
  have RA := hide ((bk 0 (by omega)).trans R1.out)
  have RC := hide ((bk 1 (by omega)).trans R2.out)
  have RB := hide ((bk 2 (by omega)).trans R3.out)
  clear bk
  obtain ⟨c0, c1, c2, c3, c4, c5, c6⟩ := CC.out _ RC.out
  have H2 : Hid (isD (grow K2 W1 W2) W2 (.agg #[.slice ao n cs, .slice al x.loose.length cl, .int .i64 (x.made : Int), .slice ap x.plan.length cp, .bool x.dead]) x) := H1.out.fr (F2.out.mono HKn.out)
  have HK3 : Hid (∀ g, grow K2 W1 W2 g → g < W2.heap.size) := grow_lt HK.out F2.out.size
  have HDc := hide (rmake_any 0 nm ⟨#[]⟩ atv s H2.out HG.out.vd HK3.out (by omega) HX.out.2.2.2.2.1 (by decide) HX.out.2.2.2.2.2.2.1 HX.out.1 HX.out.2.1 (fun h => by first | rfl | omega) HG.out.plan HG.out.pz (by have := HG.out.made; have := HX.out.2.2.2.2.2.2.2; omega))
  generalize hE0 : maE x 0 nm ⟨#[]⟩ atv s = e0 at *
  clear hE0
  generalize hX0 : maS x 0 nm ⟨#[]⟩ atv s = x0 at *
  have GX : Hid (Gd x0 (nn + 1)) := by
    show Gd x0 _
    rw [← hX0]
    exact HG.out.ma HX.out.2.2.2.2.2.2.2 (by omega) (fun _ => rfl) (fun h => absurd rfl h) (fun h => by omega)
  clear hX0
  go_upto_region 36 with (first | ((with_reducible refine at_list ?_); first | refine wpList_loadA ADd rfl _ rfl b0 rfl _ rfl _ RA.out ?_ | refine wpList_storeA ADd rfl _ _ rfl b0 _ (by rfl) (by simp [Value.oneCell']) rfl rfl _ (by rfl) _ RA3.out ?_) | (go_at_call 14; refine HDc.out.mono ?_; rintro e W3 ⟨v3, rfl, d3, b3⟩; obtain ⟨ao3, n3, cs3, al3, cl3, ap3, cp3, e3⟩ := d3.form; subst e3; have D3 := hide d3; have B3 := hide b3; have RA3 := hide ((b3.block _ (lt_heap RA.out)).trans RA.out); have RB3 := hide ((b3.block _ (lt_heap RB.out)).trans RB.out); clear d3 b3))
  try simp only [Act.put]
  have R4 : Hid ((W3.setRow b0 #[.slice ao3 n3 cs3, .slice al3 x0.loose.length cl3, .int .i64 (x0.made : Int), .slice ap3 x0.plan.length cp3, .bool x0.dead]).heap[b0]? = some (.cells #[.slice ao3 n3 cs3, .slice al3 x0.loose.length cl3, .int .i64 (x0.made : Int), .slice ap3 x0.plan.length cp3, .bool x0.dead] 30 (0, 0))) := setRow_heap _ _ _ _ _ _ RA3.out
  have RB4 : Hid ((W3.setRow b0 #[.slice ao3 n3 cs3, .slice al3 x0.loose.length cl3, .int .i64 (x0.made : Int), .slice ap3 x0.plan.length cp3, .bool x0.dead]).heap[b0 + 2]? = some (.cells (dcs (.slice none 0 0) (.slice none 0 0) 0 (.slice none 0 0) false) 30 (0, 0))) := (setRow_other _ _ _ _ (by omega)).trans RB3.out
  have D4 : Hid (isD (grow K2 W1 W2) (W3.setRow b0 #[.slice ao3 n3 cs3, .slice al3 x0.loose.length cl3, .int .i64 (x0.made : Int), .slice ap3 x0.plan.length cp3, .bool x0.dead]) (.agg #[.slice ao3 n3 cs3, .slice al3 x0.loose.length cl3, .int .i64 (x0.made : Int), .slice ap3 x0.plan.length cp3, .bool x0.dead]) x0) := D3.out.write (Fr.setRow W3 (.inl (HKo.out b0 (Nat.le_refl _) (by omega))) _)
  have P4 : Hid (DK (W3.setRow b0 #[.slice ao3 n3 cs3, .slice al3 x0.loose.length cl3, .int .i64 (x0.made : Int), .slice ap3 x0.plan.length cp3, .bool x0.dead]) gd x0 (grow T W1 W2)) := (D2.out.below B3.out).keep (by simp) (fun g hg => setRow_other _ _ _ _ (fun e => by
    subst e
    rcases hg with hg | ⟨hg, _⟩
    · have := HTb.out _ hg; omega
    · have := S3.out; omega))
  have F4 : Hid (Fr T w (W3.setRow b0 #[.slice ao3 n3 cs3, .slice al3 x0.loose.length cl3, .int .i64 (x0.made : Int), .slice ap3 x0.plan.length cp3, .bool x0.dead])) := by
    have h1 : Fr T w W3 := ((Fr.of_below (by have := HB.out; rw [← hgb] at this; exact this)).trans' F2.out).trans' (Fr.of_below B3.out)
    exact h1.newRow (by omega) _
  clear RA RC RB RA3 RB3 D3 B3 D2 H2
  generalize (W3.setRow b0 #[.slice ao3 n3 cs3, .slice al3 x0.loose.length cl3, .int .i64 (x0.made : Int), .slice ap3 x0.plan.length cp3, .bool x0.dead]) = W4 at *
  refine wp_region_held_drew (S := fun W => W.heap[b0]? = some (.cells #[.slice ao3 n3 cs3, .slice al3 x0.loose.length cl3, .int .i64 (x0.made : Int), .slice ap3 x0.plan.length cp3, .bool x0.dead] 30 (0, 0))) (by kernel_rfl) R4.out (fun hH => ?_)
  refine wpAnyH_take (i := 0) (v := .pointer (some ⟨gd, 0, none⟩)) rfl (by kernel_rfl) (by kernel_rfl) (by kernel_rfl) (fun _ _ _ h => h) (yl_move (by rfl) _ (by rfl) _ (by rfl)) hH ?_
  change wpAnyH _ _ _ _ _ _ _ (Act.put _ (some 160) _) _
  simp only [Act.put, List.setIfInBounds_toArray, List.set_cons_zero, List.set_cons_succ]
  refine wpAnyH_take (i := 1) (v := .agg #[.slice ao3 n3 cs3, .slice al3 x0.loose.length cl3, .int .i64 (x0.made : Int), .slice ap3 x0.plan.length cp3, .bool x0.dead]) rfl (by kernel_rfl) (by kernel_rfl) (by kernel_rfl) (fun _ _ _ h => h) (yl_load (by rfl) _ (by rfl) _ _ (by rfl) (fun W hS => ld_row ADd rfl hS)) hH ?_
  change wpAnyH _ _ _ _ _ _ _ (Act.put _ (some 161) _) _
  simp only [Act.put, List.setIfInBounds_toArray, List.set_cons_zero, List.set_cons_succ]
  refine wpAnyH_take (i := 2) (v := .int .i64 e0) rfl (by kernel_rfl) (by kernel_rfl) (by kernel_rfl) (fun _ _ _ h => h) (yl_move (by rfl) _ (by rfl) _ (by rfl)) hH ?_
  change wpAnyH _ _ _ _ _ _ _ (Act.put _ (some 162) _) _
  simp only [Act.put, List.setIfInBounds_toArray, List.set_cons_zero, List.set_cons_succ]
  refine wpAnyH_take (i := 3) (v := .int .i64 e0) rfl (by kernel_rfl) (by kernel_rfl) (by kernel_rfl) (fun _ _ _ h => h) (yl_move (by rfl) _ (by rfl) _ (by rfl)) hH ?_
  change wpAnyH _ _ _ _ _ _ _ (Act.put _ (some 163) _) _
  simp only [Act.put, List.setIfInBounds_toArray, List.set_cons_zero, List.set_cons_succ]
  refine wpAnyH_take (i := 4) (v := .bool true) rfl (by kernel_rfl) (by kernel_rfl) (by kernel_rfl) (fun _ _ _ h => h) (.inl ⟨by rfl, fun W _ => by go_simp⟩) hH ?_
  change wpAnyH _ _ _ _ _ _ _ (Act.put _ (some 164) _) _
  simp only [Act.put, List.setIfInBounds_toArray, List.set_cons_zero, List.set_cons_succ]
  refine wpAnyH_take (i := 5) (v := .pointer (some ⟨gd, 0, none⟩)) rfl (by kernel_rfl) (by kernel_rfl) (by kernel_rfl) (fun _ _ _ h => h) (.inl ⟨by rfl, fun W _ => by go_simp⟩) hH ?_
  change wpAnyH _ _ _ _ _ _ _ (Act.put _ (some 6) _) _
  simp only [Act.put, List.setIfInBounds_toArray, List.set_cons_zero, List.set_cons_succ]
  have R5 : Hid (W4.drew.heap[b0]? = some (.cells #[.slice ao3 n3 cs3, .slice al3 x0.loose.length cl3, .int .i64 (x0.made : Int), .slice ap3 x0.plan.length cp3, .bool x0.dead] 30 (0, 0))) := R4.out
  have RB5 : Hid (W4.drew.heap[b0 + 2]? = some (.cells (dcs (.slice none 0 0) (.slice none 0 0) 0 (.slice none 0 0) false) 30 (0, 0))) := RB4.out
  have D5 := hide (D4.out.next (Below.refl W4.heap.size W4).drew)
  have P5 := hide (P4.out.below (Below.refl W4.heap.size W4).drew)
  have F5 : Hid (Fr T w W4.drew) := F4.out.trans' (Fr.of_below (Below.refl W4.heap.size W4).drew)
  clear R4 RB4 D4 P4 F4
  generalize W4.drew = W5 at *
  refine wpAnyH_ready (rs := [6]) (by kernel_rfl) (by simp) (AllReadyH.cons rfl (fun K1 hK1 => ?_) AllReadyH.nil)
  refine stepStoreA ADd (by rfl) _ _ (by rfl) (b0 + 2) #[.slice ao3 n3 cs3, .slice al3 x0.loose.length cl3, .int .i64 (x0.made : Int), .slice ap3 x0.plan.length cp3, .bool x0.dead] (by rfl) (by simp [Value.oneCell']) (by rfl) (by rfl) _ (by rfl) _ RB5.out ?_
  refine hK1.out _ _ ((setRow_other _ _ _ _ (by omega)).trans R5.out) (fun hH => ?_)
  clear hK1
  try simp only [Act.put]
  refine wpAnyH_take (i := 7) (v := .bool true) rfl (by kernel_rfl) (by kernel_rfl) (by kernel_rfl) (fun _ _ _ h => h) (.inl ⟨by rfl, fun W _ => by go_simp⟩) hH ?_
  change wpAnyH _ _ _ _ _ _ _ (Act.put _ (some 8) _) _
  simp only [Act.put, List.setIfInBounds_toArray, List.set_cons_zero, List.set_cons_succ]
  refine wpAnyH_done (by kernel_rfl) ?_ _
  go_wp2
  refine bodyPost_ret (res3b ADd Try.results6 _ _ (b0 + 2) 30 _ rfl (by rfl) (setRow_heap _ _ _ _ _ _ RB5.out) _ (by rfl) _ (by rfl)) rfl ?_
  refine ⟨gd, x0, grow T W1 W2, _, rfl, P5.out.keep (by simp) (fun g hg => setRow_other _ _ _ _ (fun e => by
    subst e
    rcases hg with hg | ⟨hg, _⟩
    · have := HTb.out _ hg; omega
    · have := S3.out; omega)), (D5.out.write (Fr.setRow W5 (.inl (HKo.out (b0 + 2) (by omega) (by omega))) _)).mono (fun g hg => ?_), GX.out, F5.out.newRow (by omega) _, fun g hg => ?_⟩
  · rcases hg with (hg | hg) | hg
    · exact .inl (HKn.out g hg)
    · exact .inr hg
    · exact .inl (HKk.out g hg)
  · rcases hg with hg | ⟨hg, _⟩
    · exact .inl hg
    · right
      have := S3.out
      omega
theorem one_1 (h : DK w gd x T) (hm : isD K w mv x) (hTK : ∀ g, T g → K g) (hKl : ∀ g, K g → g < w.heap.size) (G : Gd x nn) (hnn : nn ≤ 9000) (atv nv : Int) (nm tn s : ByteArray) (pa : Option Addr) (pn pc : Nat) (ha1 : -9223372036854775808 ≤ atv) (ha2 : atv < 9223372036854775808) (hn1 : -9223372036854775808 ≤ nv) (hn2 : nv < 9223372036854775808) (hs1 : nm.size ≤ maxLen) (hs2 : tn.size ≤ maxLen) (hs3 : s.size ≤ maxLen) : Calls Try.prog 6 #[.pointer (some ⟨gd, 0, none⟩), mv, .agg #[.int .i64 1, .int .i64 atv, .int .i64 nv, .string nm, .string tn, .string s, .slice pa pn pc]] w (OneP w K T (nn + 1)) := by
  have HTl : ∀ g, T g → g < w.heap.size := h.lt
  obtain ⟨ao, n, cs, al, cl, ap, cp, rfl⟩ := hm.form
  have s1 : (w.alloc (.cells #[.slice ao n cs, .slice al x.loose.length cl, .int .i64 (x.made : Int), .slice ap x.plan.length cp, .bool x.dead] 30)).heap.size = w.heap.size + 1 := by simp
  have s2 : ((w.alloc (.cells #[.slice ao n cs, .slice al x.loose.length cl, .int .i64 (x.made : Int), .slice ap x.plan.length cp, .bool x.dead] 30)).alloc (.cells #[.int .i64 1, .int .i64 atv, .int .i64 nv, .string nm, .string tn, .string s, .slice pa pn pc] 35)).heap.size = w.heap.size + 2 := by simp
  have s3 : (((w.alloc (.cells #[.slice ao n cs, .slice al x.loose.length cl, .int .i64 (x.made : Int), .slice ap x.plan.length cp, .bool x.dead] 30)).alloc (.cells #[.int .i64 1, .int .i64 atv, .int .i64 nv, .string nm, .string tn, .string s, .slice pa pn pc] 35)).alloc (.cells (dcs (.slice none 0 0) (.slice none 0 0) 0 (.slice none 0 0) false) 30)).heap.size = w.heap.size + 3 := by simp
  have r1 : (((w.alloc (.cells #[.slice ao n cs, .slice al x.loose.length cl, .int .i64 (x.made : Int), .slice ap x.plan.length cp, .bool x.dead] 30)).alloc (.cells #[.int .i64 1, .int .i64 atv, .int .i64 nv, .string nm, .string tn, .string s, .slice pa pn pc] 35)).alloc (.cells (dcs (.slice none 0 0) (.slice none 0 0) 0 (.slice none 0 0) false) 30)).heap[w.heap.size]? = some (.cells #[.slice ao n cs, .slice al x.loose.length cl, .int .i64 (x.made : Int), .slice ap x.plan.length cp, .bool x.dead] 30 (0, 0)) := (Below.heap_alloc _ _ _ (by rw [s2]; omega)).trans ((Below.heap_alloc _ _ _ (by rw [s1]; omega)).trans (heap_alloc_last w _))
  have r2 : (((w.alloc (.cells #[.slice ao n cs, .slice al x.loose.length cl, .int .i64 (x.made : Int), .slice ap x.plan.length cp, .bool x.dead] 30)).alloc (.cells #[.int .i64 1, .int .i64 atv, .int .i64 nv, .string nm, .string tn, .string s, .slice pa pn pc] 35)).alloc (.cells (dcs (.slice none 0 0) (.slice none 0 0) 0 (.slice none 0 0) false) 30)).heap[w.heap.size + 1]? = some (.cells #[.int .i64 1, .int .i64 atv, .int .i64 nv, .string nm, .string tn, .string s, .slice pa pn pc] 35 (0, 0)) := by
    have := heap_alloc_last (w.alloc (.cells #[.slice ao n cs, .slice al x.loose.length cl, .int .i64 (x.made : Int), .slice ap x.plan.length cp, .bool x.dead] 30)) (.cells #[.int .i64 1, .int .i64 atv, .int .i64 nv, .string nm, .string tn, .string s, .slice pa pn pc] 35)
    rw [s1] at this
    exact (Below.heap_alloc _ _ _ (by rw [s2]; omega)).trans this
  have r3 : (((w.alloc (.cells #[.slice ao n cs, .slice al x.loose.length cl, .int .i64 (x.made : Int), .slice ap x.plan.length cp, .bool x.dead] 30)).alloc (.cells #[.int .i64 1, .int .i64 atv, .int .i64 nv, .string nm, .string tn, .string s, .slice pa pn pc] 35)).alloc (.cells (dcs (.slice none 0 0) (.slice none 0 0) 0 (.slice none 0 0) false) 30)).heap[w.heap.size + 2]? = some (.cells (dcs (.slice none 0 0) (.slice none 0 0) 0 (.slice none 0 0) false) 30 (0, 0)) := by
    have := heap_alloc_last ((w.alloc (.cells #[.slice ao n cs, .slice al x.loose.length cl, .int .i64 (x.made : Int), .slice ap x.plan.length cp, .bool x.dead] 30)).alloc (.cells #[.int .i64 1, .int .i64 atv, .int .i64 nv, .string nm, .string tn, .string s, .slice pa pn pc] 35)) (.cells (dcs (.slice none 0 0) (.slice none 0 0) 0 (.slice none 0 0) false) 30)
    rw [s2] at this
    exact this
  have hB : Below w.heap.size w (((w.alloc (.cells #[.slice ao n cs, .slice al x.loose.length cl, .int .i64 (x.made : Int), .slice ap x.plan.length cp, .bool x.dead] 30)).alloc (.cells #[.int .i64 1, .int .i64 atv, .int .i64 nv, .string nm, .string tn, .string s, .slice pa pn pc] 35)).alloc (.cells (dcs (.slice none 0 0) (.slice none 0 0) 0 (.slice none 0 0) false) 30)) := (((Below.refl w.heap.size w).alloc (Nat.le_refl _) _).alloc (by rw [s1]; omega) _).alloc (by rw [s2]; omega) _
  have HB := hide hB
  have R1 := hide r1
  have R2 := hide r2
  have R3 := hide r3
  have S3 := hide s3
  have D1 := hide (h.below hB)
  have H1 := hide (hm.up hB)
  have HT := hide HTl
  have HK : Hid (∀ g, grow K w (((w.alloc (.cells #[.slice ao n cs, .slice al x.loose.length cl, .int .i64 (x.made : Int), .slice ap x.plan.length cp, .bool x.dead] 30)).alloc (.cells #[.int .i64 1, .int .i64 atv, .int .i64 nv, .string nm, .string tn, .string s, .slice pa pn pc] 35)).alloc (.cells (dcs (.slice none 0 0) (.slice none 0 0) 0 (.slice none 0 0) false) 30)) g → g < (((w.alloc (.cells #[.slice ao n cs, .slice al x.loose.length cl, .int .i64 (x.made : Int), .slice ap x.plan.length cp, .bool x.dead] 30)).alloc (.cells #[.int .i64 1, .int .i64 atv, .int .i64 nv, .string nm, .string tn, .string s, .slice pa pn pc] 35)).alloc (.cells (dcs (.slice none 0 0) (.slice none 0 0) 0 (.slice none 0 0) false) 30)).heap.size) := grow_lt hKl hB.size
  have HKn : Hid (∀ g, T g → grow K w (((w.alloc (.cells #[.slice ao n cs, .slice al x.loose.length cl, .int .i64 (x.made : Int), .slice ap x.plan.length cp, .bool x.dead] 30)).alloc (.cells #[.int .i64 1, .int .i64 atv, .int .i64 nv, .string nm, .string tn, .string s, .slice pa pn pc] 35)).alloc (.cells (dcs (.slice none 0 0) (.slice none 0 0) 0 (.slice none 0 0) false) 30)) g) := fun g hg => .inl (hTK g hg)
  have HKk : Hid (∀ g, K g → grow K w (((w.alloc (.cells #[.slice ao n cs, .slice al x.loose.length cl, .int .i64 (x.made : Int), .slice ap x.plan.length cp, .bool x.dead] 30)).alloc (.cells #[.int .i64 1, .int .i64 atv, .int .i64 nv, .string nm, .string tn, .string s, .slice pa pn pc] 35)).alloc (.cells (dcs (.slice none 0 0) (.slice none 0 0) 0 (.slice none 0 0) false) 30)) g) := fun g hg => .inl hg
  have HKo : Hid (∀ g, w.heap.size ≤ g → g < w.heap.size + 3 → grow K w (((w.alloc (.cells #[.slice ao n cs, .slice al x.loose.length cl, .int .i64 (x.made : Int), .slice ap x.plan.length cp, .bool x.dead] 30)).alloc (.cells #[.int .i64 1, .int .i64 atv, .int .i64 nv, .string nm, .string tn, .string s, .slice pa pn pc] 35)).alloc (.cells (dcs (.slice none 0 0) (.slice none 0 0) 0 (.slice none 0 0) false) 30)) g) := fun g h1 h2 => .inr ⟨h1, by rw [s3]; omega⟩
  have HG := hide G
  have HX := hide (And.intro ha1 (And.intro ha2 (And.intro hn1 (And.intro hn2 (And.intro hs1 (And.intro hs2 (And.intro hs3 hnn)))))))
  clear hB r1 r2 r3 s3 h hm hTK hKl G HTl ha1 ha2 hn1 hn2 hs1 hs2 hs3 hnn
  generalize grow K w (((w.alloc (.cells #[.slice ao n cs, .slice al x.loose.length cl, .int .i64 (x.made : Int), .slice ap x.plan.length cp, .bool x.dead] 30)).alloc (.cells #[.int .i64 1, .int .i64 atv, .int .i64 nv, .string nm, .string tn, .string s, .slice pa pn pc] 35)).alloc (.cells (dcs (.slice none 0 0) (.slice none 0 0) 0 (.slice none 0 0) false) 30)) = K2 at *
  go_enter Try.func6, Try.ntmps6
  go_upto_region 1 with ((with_reducible refine at_list ?_); first | refine wpList_boxA rfl _ rfl _ rfl ?_ | refine wpList_allocA ADd rfl rfl ?_)
  try rw [s2]
  try rw [s1]
  clear s1 s2
  generalize (((w.alloc (.cells #[.slice ao n cs, .slice al x.loose.length cl, .int .i64 (x.made : Int), .slice ap x.plan.length cp, .bool x.dead] 30)).alloc (.cells #[.int .i64 1, .int .i64 atv, .int .i64 nv, .string nm, .string tn, .string s, .slice pa pn pc] 35)).alloc (.cells (dcs (.slice none 0 0) (.slice none 0 0) 0 (.slice none 0 0) false) 30)) = W1 at *
  generalize hgb : w.heap.size = b0 at *
  have CC : Hid (∀ W : World, W.heap[b0 + 1]? = some (.cells #[.int .i64 1, .int .i64 atv, .int .i64 nv, .string nm, .string tn, .string s, .slice pa pn pc] 35 (0, 0)) → W.cell? ⟨b0 + 1, 0, none⟩ = some (.int .i64 1) ∧ W.cell? ⟨b0 + 1, 1, none⟩ = some (.int .i64 atv) ∧ W.cell? ⟨b0 + 1, 2, none⟩ = some (.int .i64 nv) ∧ W.cell? ⟨b0 + 1, 3, none⟩ = some (.string nm) ∧ W.cell? ⟨b0 + 1, 4, none⟩ = some (.string tn) ∧ W.cell? ⟨b0 + 1, 5, none⟩ = some (.string s) ∧ W.cell? ⟨b0 + 1, 6, none⟩ = some (.slice pa pn pc)) := fun W e => by
    refine ⟨?_, ?_, ?_, ?_, ?_, ?_, ?_⟩ <;> (rw [cell_of_row _ _ _ _ _ _ e]; rfl)
  obtain ⟨c0, c1, c2, c3, c4, c5, c6⟩ := CC.out _ R2.out
  have HKn3 := hide HKn.out
  have HTb : Hid (∀ g, T g → g < b0) := HT.out
  go_upto_region 12 with (go_at_call 10; refine (pappend_all nm s D1.out HG.out.vd HG.out.plan HX.out.2.2.2.2.1 HX.out.2.2.2.2.2.2.1 (by have := HG.out.many; have := HX.out.2.2.2.2.2.2.2; omega) (by have := HG.out.made; have := HX.out.2.2.2.2.2.2.2; omega)).mono ?_; rintro e W2 ⟨rfl, d2, f2⟩; have D2 := hide d2; have F2 := hide f2; clear d2 f2)
  clear c0 c1 c2 c3 c4 c5 c6
  have bk : ∀ j, j < 3 → W2.heap[b0 + j]? = W1.heap[b0 + j]? := fun j hj => F2.out.block _ (by have := S3.out; omega) (fun c => by have := HTb.out _ c; omega)
  have RA := hide ((bk 0 (by omega)).trans R1.out)
  have RC := hide ((bk 1 (by omega)).trans R2.out)
  have RB := hide ((bk 2 (by omega)).trans R3.out)
  clear bk
  obtain ⟨c0, c1, c2, c3, c4, c5, c6⟩ := CC.out _ RC.out
  have H2 : Hid (isD (grow K2 W1 W2) W2 (.agg #[.slice ao n cs, .slice al x.loose.length cl, .int .i64 (x.made : Int), .slice ap x.plan.length cp, .bool x.dead]) x) := H1.out.fr (F2.out.mono HKn.out)
  have HK3 : Hid (∀ g, grow K2 W1 W2 g → g < W2.heap.size) := grow_lt HK.out F2.out.size
  have HDc := hide (rappend_any nm s H2.out HG.out.vd HK3.out HX.out.2.2.2.2.1 HX.out.2.2.2.2.2.2.1 HG.out.plan HG.out.pz (by have := HG.out.made; have := HX.out.2.2.2.2.2.2.2; omega))
  generalize hE0 : maE x 0 nm ⟨#[]⟩ (x.now.at (ls nm)).length s = e0 at *
  clear hE0
  generalize hX0 : maS x 0 nm ⟨#[]⟩ (x.now.at (ls nm)).length s = x0 at *
  have GX : Hid (Gd x0 (nn + 1)) := by
    show Gd x0 _
    rw [← hX0]
    exact HG.out.ma HX.out.2.2.2.2.2.2.2 (by omega) (fun _ => rfl) (fun h => absurd rfl h) (fun h => by omega)
  clear hX0
  go_upto_region 36 with (first | ((with_reducible refine at_list ?_); first | refine wpList_loadA ADd rfl _ rfl b0 rfl _ rfl _ RA.out ?_ | refine wpList_storeA ADd rfl _ _ rfl b0 _ (by rfl) (by simp [Value.oneCell']) rfl rfl _ (by rfl) _ RA3.out ?_) | (go_at_call 15; refine HDc.out.mono ?_; rintro e W3 ⟨v3, rfl, d3, b3⟩; obtain ⟨ao3, n3, cs3, al3, cl3, ap3, cp3, e3⟩ := d3.form; subst e3; have D3 := hide d3; have B3 := hide b3; have RA3 := hide ((b3.block _ (lt_heap RA.out)).trans RA.out); have RB3 := hide ((b3.block _ (lt_heap RB.out)).trans RB.out); clear d3 b3))
  try simp only [Act.put]
  have R4 : Hid ((W3.setRow b0 #[.slice ao3 n3 cs3, .slice al3 x0.loose.length cl3, .int .i64 (x0.made : Int), .slice ap3 x0.plan.length cp3, .bool x0.dead]).heap[b0]? = some (.cells #[.slice ao3 n3 cs3, .slice al3 x0.loose.length cl3, .int .i64 (x0.made : Int), .slice ap3 x0.plan.length cp3, .bool x0.dead] 30 (0, 0))) := setRow_heap _ _ _ _ _ _ RA3.out
  have RB4 : Hid ((W3.setRow b0 #[.slice ao3 n3 cs3, .slice al3 x0.loose.length cl3, .int .i64 (x0.made : Int), .slice ap3 x0.plan.length cp3, .bool x0.dead]).heap[b0 + 2]? = some (.cells (dcs (.slice none 0 0) (.slice none 0 0) 0 (.slice none 0 0) false) 30 (0, 0))) := (setRow_other _ _ _ _ (by omega)).trans RB3.out
  have D4 : Hid (isD (grow K2 W1 W2) (W3.setRow b0 #[.slice ao3 n3 cs3, .slice al3 x0.loose.length cl3, .int .i64 (x0.made : Int), .slice ap3 x0.plan.length cp3, .bool x0.dead]) (.agg #[.slice ao3 n3 cs3, .slice al3 x0.loose.length cl3, .int .i64 (x0.made : Int), .slice ap3 x0.plan.length cp3, .bool x0.dead]) x0) := D3.out.write (Fr.setRow W3 (.inl (HKo.out b0 (Nat.le_refl _) (by omega))) _)
  have P4 : Hid (DK (W3.setRow b0 #[.slice ao3 n3 cs3, .slice al3 x0.loose.length cl3, .int .i64 (x0.made : Int), .slice ap3 x0.plan.length cp3, .bool x0.dead]) gd x0 (grow T W1 W2)) := (D2.out.below B3.out).keep (by simp) (fun g hg => setRow_other _ _ _ _ (fun e => by
    subst e
    rcases hg with hg | ⟨hg, _⟩
    · have := HTb.out _ hg; omega
    · have := S3.out; omega))
  have F4 : Hid (Fr T w (W3.setRow b0 #[.slice ao3 n3 cs3, .slice al3 x0.loose.length cl3, .int .i64 (x0.made : Int), .slice ap3 x0.plan.length cp3, .bool x0.dead])) := by
    have h1 : Fr T w W3 := ((Fr.of_below (by have := HB.out; rw [← hgb] at this; exact this)).trans' F2.out).trans' (Fr.of_below B3.out)
    exact h1.newRow (by omega) _
  clear RA RC RB RA3 RB3 D3 B3 D2 H2
  generalize (W3.setRow b0 #[.slice ao3 n3 cs3, .slice al3 x0.loose.length cl3, .int .i64 (x0.made : Int), .slice ap3 x0.plan.length cp3, .bool x0.dead]) = W4 at *
  refine wp_region_held_drew (S := fun W => W.heap[b0]? = some (.cells #[.slice ao3 n3 cs3, .slice al3 x0.loose.length cl3, .int .i64 (x0.made : Int), .slice ap3 x0.plan.length cp3, .bool x0.dead] 30 (0, 0))) (by kernel_rfl) R4.out (fun hH => ?_)
  refine wpAnyH_take (i := 0) (v := .pointer (some ⟨gd, 0, none⟩)) rfl (by kernel_rfl) (by kernel_rfl) (by kernel_rfl) (fun _ _ _ h => h) (yl_move (by rfl) _ (by rfl) _ (by rfl)) hH ?_
  change wpAnyH _ _ _ _ _ _ _ (Act.put _ (some 160) _) _
  simp only [Act.put, List.setIfInBounds_toArray, List.set_cons_zero, List.set_cons_succ]
  refine wpAnyH_take (i := 1) (v := .agg #[.slice ao3 n3 cs3, .slice al3 x0.loose.length cl3, .int .i64 (x0.made : Int), .slice ap3 x0.plan.length cp3, .bool x0.dead]) rfl (by kernel_rfl) (by kernel_rfl) (by kernel_rfl) (fun _ _ _ h => h) (yl_load (by rfl) _ (by rfl) _ _ (by rfl) (fun W hS => ld_row ADd rfl hS)) hH ?_
  change wpAnyH _ _ _ _ _ _ _ (Act.put _ (some 161) _) _
  simp only [Act.put, List.setIfInBounds_toArray, List.set_cons_zero, List.set_cons_succ]
  refine wpAnyH_take (i := 2) (v := .int .i64 e0) rfl (by kernel_rfl) (by kernel_rfl) (by kernel_rfl) (fun _ _ _ h => h) (yl_move (by rfl) _ (by rfl) _ (by rfl)) hH ?_
  change wpAnyH _ _ _ _ _ _ _ (Act.put _ (some 162) _) _
  simp only [Act.put, List.setIfInBounds_toArray, List.set_cons_zero, List.set_cons_succ]
  refine wpAnyH_take (i := 3) (v := .int .i64 e0) rfl (by kernel_rfl) (by kernel_rfl) (by kernel_rfl) (fun _ _ _ h => h) (yl_move (by rfl) _ (by rfl) _ (by rfl)) hH ?_
  change wpAnyH _ _ _ _ _ _ _ (Act.put _ (some 163) _) _
  simp only [Act.put, List.setIfInBounds_toArray, List.set_cons_zero, List.set_cons_succ]
  refine wpAnyH_take (i := 4) (v := .bool true) rfl (by kernel_rfl) (by kernel_rfl) (by kernel_rfl) (fun _ _ _ h => h) (.inl ⟨by rfl, fun W _ => by go_simp⟩) hH ?_
  change wpAnyH _ _ _ _ _ _ _ (Act.put _ (some 164) _) _
  simp only [Act.put, List.setIfInBounds_toArray, List.set_cons_zero, List.set_cons_succ]
  refine wpAnyH_take (i := 5) (v := .pointer (some ⟨gd, 0, none⟩)) rfl (by kernel_rfl) (by kernel_rfl) (by kernel_rfl) (fun _ _ _ h => h) (.inl ⟨by rfl, fun W _ => by go_simp⟩) hH ?_
  change wpAnyH _ _ _ _ _ _ _ (Act.put _ (some 6) _) _
  simp only [Act.put, List.setIfInBounds_toArray, List.set_cons_zero, List.set_cons_succ]
  have R5 : Hid (W4.drew.heap[b0]? = some (.cells #[.slice ao3 n3 cs3, .slice al3 x0.loose.length cl3, .int .i64 (x0.made : Int), .slice ap3 x0.plan.length cp3, .bool x0.dead] 30 (0, 0))) := R4.out
  have RB5 : Hid (W4.drew.heap[b0 + 2]? = some (.cells (dcs (.slice none 0 0) (.slice none 0 0) 0 (.slice none 0 0) false) 30 (0, 0))) := RB4.out
  have D5 := hide (D4.out.next (Below.refl W4.heap.size W4).drew)
  have P5 := hide (P4.out.below (Below.refl W4.heap.size W4).drew)
  have F5 : Hid (Fr T w W4.drew) := F4.out.trans' (Fr.of_below (Below.refl W4.heap.size W4).drew)
  clear R4 RB4 D4 P4 F4
  generalize W4.drew = W5 at *
  refine wpAnyH_ready (rs := [6]) (by kernel_rfl) (by simp) (AllReadyH.cons rfl (fun K1 hK1 => ?_) AllReadyH.nil)
  refine stepStoreA ADd (by rfl) _ _ (by rfl) (b0 + 2) #[.slice ao3 n3 cs3, .slice al3 x0.loose.length cl3, .int .i64 (x0.made : Int), .slice ap3 x0.plan.length cp3, .bool x0.dead] (by rfl) (by simp [Value.oneCell']) (by rfl) (by rfl) _ (by rfl) _ RB5.out ?_
  refine hK1.out _ _ ((setRow_other _ _ _ _ (by omega)).trans R5.out) (fun hH => ?_)
  clear hK1
  try simp only [Act.put]
  refine wpAnyH_take (i := 7) (v := .bool true) rfl (by kernel_rfl) (by kernel_rfl) (by kernel_rfl) (fun _ _ _ h => h) (.inl ⟨by rfl, fun W _ => by go_simp⟩) hH ?_
  change wpAnyH _ _ _ _ _ _ _ (Act.put _ (some 8) _) _
  simp only [Act.put, List.setIfInBounds_toArray, List.set_cons_zero, List.set_cons_succ]
  refine wpAnyH_done (by kernel_rfl) ?_ _
  go_wp2
  refine bodyPost_ret (res3b ADd Try.results6 _ _ (b0 + 2) 30 _ rfl (by rfl) (setRow_heap _ _ _ _ _ _ RB5.out) _ (by rfl) _ (by rfl)) rfl ?_
  refine ⟨gd, x0, grow T W1 W2, _, rfl, P5.out.keep (by simp) (fun g hg => setRow_other _ _ _ _ (fun e => by
    subst e
    rcases hg with hg | ⟨hg, _⟩
    · have := HTb.out _ hg; omega
    · have := S3.out; omega)), (D5.out.write (Fr.setRow W5 (.inl (HKo.out (b0 + 2) (by omega) (by omega))) _)).mono (fun g hg => ?_), GX.out, F5.out.newRow (by omega) _, fun g hg => ?_⟩
  · rcases hg with (hg | hg) | hg
    · exact .inl (HKn.out g hg)
    · exact .inr hg
    · exact .inl (HKk.out g hg)
  · rcases hg with hg | ⟨hg, _⟩
    · exact .inl hg
    · right
      have := S3.out
      omega
theorem one_2 (h : DK w gd x T) (hm : isD K w mv x) (hTK : ∀ g, T g → K g) (hKl : ∀ g, K g → g < w.heap.size) (G : Gd x nn) (hnn : nn ≤ 9000) (atv nv : Int) (nm tn s : ByteArray) (pa : Option Addr) (pn pc : Nat) (ha1 : -9223372036854775808 ≤ atv) (ha2 : atv < 9223372036854775808) (hn1 : -9223372036854775808 ≤ nv) (hn2 : nv < 9223372036854775808) (hs1 : nm.size ≤ maxLen) (hs2 : tn.size ≤ maxLen) (hs3 : s.size ≤ maxLen) : Calls Try.prog 6 #[.pointer (some ⟨gd, 0, none⟩), mv, .agg #[.int .i64 2, .int .i64 atv, .int .i64 nv, .string nm, .string tn, .string s, .slice pa pn pc]] w (OneP w K T (nn + 1)) := by
  have HTl : ∀ g, T g → g < w.heap.size := h.lt
  obtain ⟨ao, n, cs, al, cl, ap, cp, rfl⟩ := hm.form
  have s1 : (w.alloc (.cells #[.slice ao n cs, .slice al x.loose.length cl, .int .i64 (x.made : Int), .slice ap x.plan.length cp, .bool x.dead] 30)).heap.size = w.heap.size + 1 := by simp
  have s2 : ((w.alloc (.cells #[.slice ao n cs, .slice al x.loose.length cl, .int .i64 (x.made : Int), .slice ap x.plan.length cp, .bool x.dead] 30)).alloc (.cells #[.int .i64 2, .int .i64 atv, .int .i64 nv, .string nm, .string tn, .string s, .slice pa pn pc] 35)).heap.size = w.heap.size + 2 := by simp
  have s3 : (((w.alloc (.cells #[.slice ao n cs, .slice al x.loose.length cl, .int .i64 (x.made : Int), .slice ap x.plan.length cp, .bool x.dead] 30)).alloc (.cells #[.int .i64 2, .int .i64 atv, .int .i64 nv, .string nm, .string tn, .string s, .slice pa pn pc] 35)).alloc (.cells (dcs (.slice none 0 0) (.slice none 0 0) 0 (.slice none 0 0) false) 30)).heap.size = w.heap.size + 3 := by simp
  have r1 : (((w.alloc (.cells #[.slice ao n cs, .slice al x.loose.length cl, .int .i64 (x.made : Int), .slice ap x.plan.length cp, .bool x.dead] 30)).alloc (.cells #[.int .i64 2, .int .i64 atv, .int .i64 nv, .string nm, .string tn, .string s, .slice pa pn pc] 35)).alloc (.cells (dcs (.slice none 0 0) (.slice none 0 0) 0 (.slice none 0 0) false) 30)).heap[w.heap.size]? = some (.cells #[.slice ao n cs, .slice al x.loose.length cl, .int .i64 (x.made : Int), .slice ap x.plan.length cp, .bool x.dead] 30 (0, 0)) := (Below.heap_alloc _ _ _ (by rw [s2]; omega)).trans ((Below.heap_alloc _ _ _ (by rw [s1]; omega)).trans (heap_alloc_last w _))
  have r2 : (((w.alloc (.cells #[.slice ao n cs, .slice al x.loose.length cl, .int .i64 (x.made : Int), .slice ap x.plan.length cp, .bool x.dead] 30)).alloc (.cells #[.int .i64 2, .int .i64 atv, .int .i64 nv, .string nm, .string tn, .string s, .slice pa pn pc] 35)).alloc (.cells (dcs (.slice none 0 0) (.slice none 0 0) 0 (.slice none 0 0) false) 30)).heap[w.heap.size + 1]? = some (.cells #[.int .i64 2, .int .i64 atv, .int .i64 nv, .string nm, .string tn, .string s, .slice pa pn pc] 35 (0, 0)) := by
    have := heap_alloc_last (w.alloc (.cells #[.slice ao n cs, .slice al x.loose.length cl, .int .i64 (x.made : Int), .slice ap x.plan.length cp, .bool x.dead] 30)) (.cells #[.int .i64 2, .int .i64 atv, .int .i64 nv, .string nm, .string tn, .string s, .slice pa pn pc] 35)
    rw [s1] at this
    exact (Below.heap_alloc _ _ _ (by rw [s2]; omega)).trans this
  have r3 : (((w.alloc (.cells #[.slice ao n cs, .slice al x.loose.length cl, .int .i64 (x.made : Int), .slice ap x.plan.length cp, .bool x.dead] 30)).alloc (.cells #[.int .i64 2, .int .i64 atv, .int .i64 nv, .string nm, .string tn, .string s, .slice pa pn pc] 35)).alloc (.cells (dcs (.slice none 0 0) (.slice none 0 0) 0 (.slice none 0 0) false) 30)).heap[w.heap.size + 2]? = some (.cells (dcs (.slice none 0 0) (.slice none 0 0) 0 (.slice none 0 0) false) 30 (0, 0)) := by
    have := heap_alloc_last ((w.alloc (.cells #[.slice ao n cs, .slice al x.loose.length cl, .int .i64 (x.made : Int), .slice ap x.plan.length cp, .bool x.dead] 30)).alloc (.cells #[.int .i64 2, .int .i64 atv, .int .i64 nv, .string nm, .string tn, .string s, .slice pa pn pc] 35)) (.cells (dcs (.slice none 0 0) (.slice none 0 0) 0 (.slice none 0 0) false) 30)
    rw [s2] at this
    exact this
  have hB : Below w.heap.size w (((w.alloc (.cells #[.slice ao n cs, .slice al x.loose.length cl, .int .i64 (x.made : Int), .slice ap x.plan.length cp, .bool x.dead] 30)).alloc (.cells #[.int .i64 2, .int .i64 atv, .int .i64 nv, .string nm, .string tn, .string s, .slice pa pn pc] 35)).alloc (.cells (dcs (.slice none 0 0) (.slice none 0 0) 0 (.slice none 0 0) false) 30)) := (((Below.refl w.heap.size w).alloc (Nat.le_refl _) _).alloc (by rw [s1]; omega) _).alloc (by rw [s2]; omega) _
  have HB := hide hB
  have R1 := hide r1
  have R2 := hide r2
  have R3 := hide r3
  have S3 := hide s3
  have D1 := hide (h.below hB)
  have H1 := hide (hm.up hB)
  have HT := hide HTl
  have HK : Hid (∀ g, grow K w (((w.alloc (.cells #[.slice ao n cs, .slice al x.loose.length cl, .int .i64 (x.made : Int), .slice ap x.plan.length cp, .bool x.dead] 30)).alloc (.cells #[.int .i64 2, .int .i64 atv, .int .i64 nv, .string nm, .string tn, .string s, .slice pa pn pc] 35)).alloc (.cells (dcs (.slice none 0 0) (.slice none 0 0) 0 (.slice none 0 0) false) 30)) g → g < (((w.alloc (.cells #[.slice ao n cs, .slice al x.loose.length cl, .int .i64 (x.made : Int), .slice ap x.plan.length cp, .bool x.dead] 30)).alloc (.cells #[.int .i64 2, .int .i64 atv, .int .i64 nv, .string nm, .string tn, .string s, .slice pa pn pc] 35)).alloc (.cells (dcs (.slice none 0 0) (.slice none 0 0) 0 (.slice none 0 0) false) 30)).heap.size) := grow_lt hKl hB.size
  have HKn : Hid (∀ g, T g → grow K w (((w.alloc (.cells #[.slice ao n cs, .slice al x.loose.length cl, .int .i64 (x.made : Int), .slice ap x.plan.length cp, .bool x.dead] 30)).alloc (.cells #[.int .i64 2, .int .i64 atv, .int .i64 nv, .string nm, .string tn, .string s, .slice pa pn pc] 35)).alloc (.cells (dcs (.slice none 0 0) (.slice none 0 0) 0 (.slice none 0 0) false) 30)) g) := fun g hg => .inl (hTK g hg)
  have HKk : Hid (∀ g, K g → grow K w (((w.alloc (.cells #[.slice ao n cs, .slice al x.loose.length cl, .int .i64 (x.made : Int), .slice ap x.plan.length cp, .bool x.dead] 30)).alloc (.cells #[.int .i64 2, .int .i64 atv, .int .i64 nv, .string nm, .string tn, .string s, .slice pa pn pc] 35)).alloc (.cells (dcs (.slice none 0 0) (.slice none 0 0) 0 (.slice none 0 0) false) 30)) g) := fun g hg => .inl hg
  have HKo : Hid (∀ g, w.heap.size ≤ g → g < w.heap.size + 3 → grow K w (((w.alloc (.cells #[.slice ao n cs, .slice al x.loose.length cl, .int .i64 (x.made : Int), .slice ap x.plan.length cp, .bool x.dead] 30)).alloc (.cells #[.int .i64 2, .int .i64 atv, .int .i64 nv, .string nm, .string tn, .string s, .slice pa pn pc] 35)).alloc (.cells (dcs (.slice none 0 0) (.slice none 0 0) 0 (.slice none 0 0) false) 30)) g) := fun g h1 h2 => .inr ⟨h1, by rw [s3]; omega⟩
  have HG := hide G
  have HX := hide (And.intro ha1 (And.intro ha2 (And.intro hn1 (And.intro hn2 (And.intro hs1 (And.intro hs2 (And.intro hs3 hnn)))))))
  clear hB r1 r2 r3 s3 h hm hTK hKl G HTl ha1 ha2 hn1 hn2 hs1 hs2 hs3 hnn
  generalize grow K w (((w.alloc (.cells #[.slice ao n cs, .slice al x.loose.length cl, .int .i64 (x.made : Int), .slice ap x.plan.length cp, .bool x.dead] 30)).alloc (.cells #[.int .i64 2, .int .i64 atv, .int .i64 nv, .string nm, .string tn, .string s, .slice pa pn pc] 35)).alloc (.cells (dcs (.slice none 0 0) (.slice none 0 0) 0 (.slice none 0 0) false) 30)) = K2 at *
  go_enter Try.func6, Try.ntmps6
  go_upto_region 1 with ((with_reducible refine at_list ?_); first | refine wpList_boxA rfl _ rfl _ rfl ?_ | refine wpList_allocA ADd rfl rfl ?_)
  try rw [s2]
  try rw [s1]
  clear s1 s2
  generalize (((w.alloc (.cells #[.slice ao n cs, .slice al x.loose.length cl, .int .i64 (x.made : Int), .slice ap x.plan.length cp, .bool x.dead] 30)).alloc (.cells #[.int .i64 2, .int .i64 atv, .int .i64 nv, .string nm, .string tn, .string s, .slice pa pn pc] 35)).alloc (.cells (dcs (.slice none 0 0) (.slice none 0 0) 0 (.slice none 0 0) false) 30)) = W1 at *
  generalize hgb : w.heap.size = b0 at *
  have CC : Hid (∀ W : World, W.heap[b0 + 1]? = some (.cells #[.int .i64 2, .int .i64 atv, .int .i64 nv, .string nm, .string tn, .string s, .slice pa pn pc] 35 (0, 0)) → W.cell? ⟨b0 + 1, 0, none⟩ = some (.int .i64 2) ∧ W.cell? ⟨b0 + 1, 1, none⟩ = some (.int .i64 atv) ∧ W.cell? ⟨b0 + 1, 2, none⟩ = some (.int .i64 nv) ∧ W.cell? ⟨b0 + 1, 3, none⟩ = some (.string nm) ∧ W.cell? ⟨b0 + 1, 4, none⟩ = some (.string tn) ∧ W.cell? ⟨b0 + 1, 5, none⟩ = some (.string s) ∧ W.cell? ⟨b0 + 1, 6, none⟩ = some (.slice pa pn pc)) := fun W e => by
    refine ⟨?_, ?_, ?_, ?_, ?_, ?_, ?_⟩ <;> (rw [cell_of_row _ _ _ _ _ _ e]; rfl)
  obtain ⟨c0, c1, c2, c3, c4, c5, c6⟩ := CC.out _ R2.out
  have HKn3 := hide HKn.out
  have HTb : Hid (∀ g, T g → g < b0) := HT.out
  go_upto_region 15 with (go_at_call 16; refine (pcut_all nm atv D1.out HG.out.vd HG.out.plan HX.out.2.2.2.2.1 (by have := HG.out.many; have := HX.out.2.2.2.2.2.2.2; omega) (by have := HG.out.made; have := HX.out.2.2.2.2.2.2.2; omega)).mono ?_; rintro e W2 ⟨rfl, d2, f2⟩; have D2 := hide d2; have F2 := hide f2; clear d2 f2)
  clear c0 c1 c2 c3 c4 c5 c6
  have bk : ∀ j, j < 3 → W2.heap[b0 + j]? = W1.heap[b0 + j]? := fun j hj => F2.out.block _ (by have := S3.out; omega) (fun c => by have := HTb.out _ c; omega)
  have RA := hide ((bk 0 (by omega)).trans R1.out)
  have RC := hide ((bk 1 (by omega)).trans R2.out)
  have RB := hide ((bk 2 (by omega)).trans R3.out)
  clear bk
  obtain ⟨c0, c1, c2, c3, c4, c5, c6⟩ := CC.out _ RC.out
  have H2 : Hid (isD (grow K2 W1 W2) W2 (.agg #[.slice ao n cs, .slice al x.loose.length cl, .int .i64 (x.made : Int), .slice ap x.plan.length cp, .bool x.dead]) x) := H1.out.fr (F2.out.mono HKn.out)
  have HK3 : Hid (∀ g, grow K2 W1 W2 g → g < W2.heap.size) := grow_lt HK.out F2.out.size
  have HDc := hide (rmake_any 1 nm ⟨#[]⟩ atv ⟨#[]⟩ H2.out HG.out.vd HK3.out (by omega) HX.out.2.2.2.2.1 (by decide) (by decide) HX.out.1 HX.out.2.1 (fun h => by first | rfl | omega) HG.out.plan HG.out.pz (by have := HG.out.made; have := HX.out.2.2.2.2.2.2.2; omega))
  generalize hE0 : maE x 1 nm ⟨#[]⟩ atv ⟨#[]⟩ = e0 at *
  clear hE0
  generalize hX0 : maS x 1 nm ⟨#[]⟩ atv ⟨#[]⟩ = x0 at *
  have GX : Hid (Gd x0 (nn + 1)) := by
    show Gd x0 _
    rw [← hX0]
    exact HG.out.ma HX.out.2.2.2.2.2.2.2 (by omega) (fun _ => rfl) (fun _ => rfl) (fun h => by omega)
  clear hX0
  go_upto_region 36 with (first | ((with_reducible refine at_list ?_); first | refine wpList_loadA ADd rfl _ rfl b0 rfl _ rfl _ RA.out ?_ | refine wpList_storeA ADd rfl _ _ rfl b0 _ (by rfl) (by simp [Value.oneCell']) rfl rfl _ (by rfl) _ RA3.out ?_) | (go_at_call 14; refine HDc.out.mono ?_; rintro e W3 ⟨v3, rfl, d3, b3⟩; obtain ⟨ao3, n3, cs3, al3, cl3, ap3, cp3, e3⟩ := d3.form; subst e3; have D3 := hide d3; have B3 := hide b3; have RA3 := hide ((b3.block _ (lt_heap RA.out)).trans RA.out); have RB3 := hide ((b3.block _ (lt_heap RB.out)).trans RB.out); clear d3 b3))
  try simp only [Act.put]
  have R4 : Hid ((W3.setRow b0 #[.slice ao3 n3 cs3, .slice al3 x0.loose.length cl3, .int .i64 (x0.made : Int), .slice ap3 x0.plan.length cp3, .bool x0.dead]).heap[b0]? = some (.cells #[.slice ao3 n3 cs3, .slice al3 x0.loose.length cl3, .int .i64 (x0.made : Int), .slice ap3 x0.plan.length cp3, .bool x0.dead] 30 (0, 0))) := setRow_heap _ _ _ _ _ _ RA3.out
  have RB4 : Hid ((W3.setRow b0 #[.slice ao3 n3 cs3, .slice al3 x0.loose.length cl3, .int .i64 (x0.made : Int), .slice ap3 x0.plan.length cp3, .bool x0.dead]).heap[b0 + 2]? = some (.cells (dcs (.slice none 0 0) (.slice none 0 0) 0 (.slice none 0 0) false) 30 (0, 0))) := (setRow_other _ _ _ _ (by omega)).trans RB3.out
  have D4 : Hid (isD (grow K2 W1 W2) (W3.setRow b0 #[.slice ao3 n3 cs3, .slice al3 x0.loose.length cl3, .int .i64 (x0.made : Int), .slice ap3 x0.plan.length cp3, .bool x0.dead]) (.agg #[.slice ao3 n3 cs3, .slice al3 x0.loose.length cl3, .int .i64 (x0.made : Int), .slice ap3 x0.plan.length cp3, .bool x0.dead]) x0) := D3.out.write (Fr.setRow W3 (.inl (HKo.out b0 (Nat.le_refl _) (by omega))) _)
  have P4 : Hid (DK (W3.setRow b0 #[.slice ao3 n3 cs3, .slice al3 x0.loose.length cl3, .int .i64 (x0.made : Int), .slice ap3 x0.plan.length cp3, .bool x0.dead]) gd x0 (grow T W1 W2)) := (D2.out.below B3.out).keep (by simp) (fun g hg => setRow_other _ _ _ _ (fun e => by
    subst e
    rcases hg with hg | ⟨hg, _⟩
    · have := HTb.out _ hg; omega
    · have := S3.out; omega))
  have F4 : Hid (Fr T w (W3.setRow b0 #[.slice ao3 n3 cs3, .slice al3 x0.loose.length cl3, .int .i64 (x0.made : Int), .slice ap3 x0.plan.length cp3, .bool x0.dead])) := by
    have h1 : Fr T w W3 := ((Fr.of_below (by have := HB.out; rw [← hgb] at this; exact this)).trans' F2.out).trans' (Fr.of_below B3.out)
    exact h1.newRow (by omega) _
  clear RA RC RB RA3 RB3 D3 B3 D2 H2
  generalize (W3.setRow b0 #[.slice ao3 n3 cs3, .slice al3 x0.loose.length cl3, .int .i64 (x0.made : Int), .slice ap3 x0.plan.length cp3, .bool x0.dead]) = W4 at *
  refine wp_region_held_drew (S := fun W => W.heap[b0]? = some (.cells #[.slice ao3 n3 cs3, .slice al3 x0.loose.length cl3, .int .i64 (x0.made : Int), .slice ap3 x0.plan.length cp3, .bool x0.dead] 30 (0, 0))) (by kernel_rfl) R4.out (fun hH => ?_)
  refine wpAnyH_take (i := 0) (v := .pointer (some ⟨gd, 0, none⟩)) rfl (by kernel_rfl) (by kernel_rfl) (by kernel_rfl) (fun _ _ _ h => h) (yl_move (by rfl) _ (by rfl) _ (by rfl)) hH ?_
  change wpAnyH _ _ _ _ _ _ _ (Act.put _ (some 160) _) _
  simp only [Act.put, List.setIfInBounds_toArray, List.set_cons_zero, List.set_cons_succ]
  refine wpAnyH_take (i := 1) (v := .agg #[.slice ao3 n3 cs3, .slice al3 x0.loose.length cl3, .int .i64 (x0.made : Int), .slice ap3 x0.plan.length cp3, .bool x0.dead]) rfl (by kernel_rfl) (by kernel_rfl) (by kernel_rfl) (fun _ _ _ h => h) (yl_load (by rfl) _ (by rfl) _ _ (by rfl) (fun W hS => ld_row ADd rfl hS)) hH ?_
  change wpAnyH _ _ _ _ _ _ _ (Act.put _ (some 161) _) _
  simp only [Act.put, List.setIfInBounds_toArray, List.set_cons_zero, List.set_cons_succ]
  refine wpAnyH_take (i := 2) (v := .int .i64 e0) rfl (by kernel_rfl) (by kernel_rfl) (by kernel_rfl) (fun _ _ _ h => h) (yl_move (by rfl) _ (by rfl) _ (by rfl)) hH ?_
  change wpAnyH _ _ _ _ _ _ _ (Act.put _ (some 162) _) _
  simp only [Act.put, List.setIfInBounds_toArray, List.set_cons_zero, List.set_cons_succ]
  refine wpAnyH_take (i := 3) (v := .int .i64 e0) rfl (by kernel_rfl) (by kernel_rfl) (by kernel_rfl) (fun _ _ _ h => h) (yl_move (by rfl) _ (by rfl) _ (by rfl)) hH ?_
  change wpAnyH _ _ _ _ _ _ _ (Act.put _ (some 163) _) _
  simp only [Act.put, List.setIfInBounds_toArray, List.set_cons_zero, List.set_cons_succ]
  refine wpAnyH_take (i := 4) (v := .bool true) rfl (by kernel_rfl) (by kernel_rfl) (by kernel_rfl) (fun _ _ _ h => h) (.inl ⟨by rfl, fun W _ => by go_simp⟩) hH ?_
  change wpAnyH _ _ _ _ _ _ _ (Act.put _ (some 164) _) _
  simp only [Act.put, List.setIfInBounds_toArray, List.set_cons_zero, List.set_cons_succ]
  refine wpAnyH_take (i := 5) (v := .pointer (some ⟨gd, 0, none⟩)) rfl (by kernel_rfl) (by kernel_rfl) (by kernel_rfl) (fun _ _ _ h => h) (.inl ⟨by rfl, fun W _ => by go_simp⟩) hH ?_
  change wpAnyH _ _ _ _ _ _ _ (Act.put _ (some 6) _) _
  simp only [Act.put, List.setIfInBounds_toArray, List.set_cons_zero, List.set_cons_succ]
  have R5 : Hid (W4.drew.heap[b0]? = some (.cells #[.slice ao3 n3 cs3, .slice al3 x0.loose.length cl3, .int .i64 (x0.made : Int), .slice ap3 x0.plan.length cp3, .bool x0.dead] 30 (0, 0))) := R4.out
  have RB5 : Hid (W4.drew.heap[b0 + 2]? = some (.cells (dcs (.slice none 0 0) (.slice none 0 0) 0 (.slice none 0 0) false) 30 (0, 0))) := RB4.out
  have D5 := hide (D4.out.next (Below.refl W4.heap.size W4).drew)
  have P5 := hide (P4.out.below (Below.refl W4.heap.size W4).drew)
  have F5 : Hid (Fr T w W4.drew) := F4.out.trans' (Fr.of_below (Below.refl W4.heap.size W4).drew)
  clear R4 RB4 D4 P4 F4
  generalize W4.drew = W5 at *
  refine wpAnyH_ready (rs := [6]) (by kernel_rfl) (by simp) (AllReadyH.cons rfl (fun K1 hK1 => ?_) AllReadyH.nil)
  refine stepStoreA ADd (by rfl) _ _ (by rfl) (b0 + 2) #[.slice ao3 n3 cs3, .slice al3 x0.loose.length cl3, .int .i64 (x0.made : Int), .slice ap3 x0.plan.length cp3, .bool x0.dead] (by rfl) (by simp [Value.oneCell']) (by rfl) (by rfl) _ (by rfl) _ RB5.out ?_
  refine hK1.out _ _ ((setRow_other _ _ _ _ (by omega)).trans R5.out) (fun hH => ?_)
  clear hK1
  try simp only [Act.put]
  refine wpAnyH_take (i := 7) (v := .bool true) rfl (by kernel_rfl) (by kernel_rfl) (by kernel_rfl) (fun _ _ _ h => h) (.inl ⟨by rfl, fun W _ => by go_simp⟩) hH ?_
  change wpAnyH _ _ _ _ _ _ _ (Act.put _ (some 8) _) _
  simp only [Act.put, List.setIfInBounds_toArray, List.set_cons_zero, List.set_cons_succ]
  refine wpAnyH_done (by kernel_rfl) ?_ _
  go_wp2
  refine bodyPost_ret (res3b ADd Try.results6 _ _ (b0 + 2) 30 _ rfl (by rfl) (setRow_heap _ _ _ _ _ _ RB5.out) _ (by rfl) _ (by rfl)) rfl ?_
  refine ⟨gd, x0, grow T W1 W2, _, rfl, P5.out.keep (by simp) (fun g hg => setRow_other _ _ _ _ (fun e => by
    subst e
    rcases hg with hg | ⟨hg, _⟩
    · have := HTb.out _ hg; omega
    · have := S3.out; omega)), (D5.out.write (Fr.setRow W5 (.inl (HKo.out (b0 + 2) (by omega) (by omega))) _)).mono (fun g hg => ?_), GX.out, F5.out.newRow (by omega) _, fun g hg => ?_⟩
  · rcases hg with (hg | hg) | hg
    · exact .inl (HKn.out g hg)
    · exact .inr hg
    · exact .inl (HKk.out g hg)
  · rcases hg with hg | ⟨hg, _⟩
    · exact .inl hg
    · right
      have := S3.out
      omega
theorem one_3 (h : DK w gd x T) (hm : isD K w mv x) (hTK : ∀ g, T g → K g) (hKl : ∀ g, K g → g < w.heap.size) (G : Gd x nn) (hnn : nn ≤ 9000) (atv nv : Int) (nm tn s : ByteArray) (pa : Option Addr) (pn pc : Nat) (ha1 : -9223372036854775808 ≤ atv) (ha2 : atv < 9223372036854775808) (hn1 : -9223372036854775808 ≤ nv) (hn2 : nv < 9223372036854775808) (hs1 : nm.size ≤ maxLen) (hs2 : tn.size ≤ maxLen) (hs3 : s.size ≤ maxLen) : Calls Try.prog 6 #[.pointer (some ⟨gd, 0, none⟩), mv, .agg #[.int .i64 3, .int .i64 atv, .int .i64 nv, .string nm, .string tn, .string s, .slice pa pn pc]] w (OneP w K T (nn + 1)) := by
  have HTl : ∀ g, T g → g < w.heap.size := h.lt
  obtain ⟨ao, n, cs, al, cl, ap, cp, rfl⟩ := hm.form
  have s1 : (w.alloc (.cells #[.slice ao n cs, .slice al x.loose.length cl, .int .i64 (x.made : Int), .slice ap x.plan.length cp, .bool x.dead] 30)).heap.size = w.heap.size + 1 := by simp
  have s2 : ((w.alloc (.cells #[.slice ao n cs, .slice al x.loose.length cl, .int .i64 (x.made : Int), .slice ap x.plan.length cp, .bool x.dead] 30)).alloc (.cells #[.int .i64 3, .int .i64 atv, .int .i64 nv, .string nm, .string tn, .string s, .slice pa pn pc] 35)).heap.size = w.heap.size + 2 := by simp
  have s3 : (((w.alloc (.cells #[.slice ao n cs, .slice al x.loose.length cl, .int .i64 (x.made : Int), .slice ap x.plan.length cp, .bool x.dead] 30)).alloc (.cells #[.int .i64 3, .int .i64 atv, .int .i64 nv, .string nm, .string tn, .string s, .slice pa pn pc] 35)).alloc (.cells (dcs (.slice none 0 0) (.slice none 0 0) 0 (.slice none 0 0) false) 30)).heap.size = w.heap.size + 3 := by simp
  have r1 : (((w.alloc (.cells #[.slice ao n cs, .slice al x.loose.length cl, .int .i64 (x.made : Int), .slice ap x.plan.length cp, .bool x.dead] 30)).alloc (.cells #[.int .i64 3, .int .i64 atv, .int .i64 nv, .string nm, .string tn, .string s, .slice pa pn pc] 35)).alloc (.cells (dcs (.slice none 0 0) (.slice none 0 0) 0 (.slice none 0 0) false) 30)).heap[w.heap.size]? = some (.cells #[.slice ao n cs, .slice al x.loose.length cl, .int .i64 (x.made : Int), .slice ap x.plan.length cp, .bool x.dead] 30 (0, 0)) := (Below.heap_alloc _ _ _ (by rw [s2]; omega)).trans ((Below.heap_alloc _ _ _ (by rw [s1]; omega)).trans (heap_alloc_last w _))
  have r2 : (((w.alloc (.cells #[.slice ao n cs, .slice al x.loose.length cl, .int .i64 (x.made : Int), .slice ap x.plan.length cp, .bool x.dead] 30)).alloc (.cells #[.int .i64 3, .int .i64 atv, .int .i64 nv, .string nm, .string tn, .string s, .slice pa pn pc] 35)).alloc (.cells (dcs (.slice none 0 0) (.slice none 0 0) 0 (.slice none 0 0) false) 30)).heap[w.heap.size + 1]? = some (.cells #[.int .i64 3, .int .i64 atv, .int .i64 nv, .string nm, .string tn, .string s, .slice pa pn pc] 35 (0, 0)) := by
    have := heap_alloc_last (w.alloc (.cells #[.slice ao n cs, .slice al x.loose.length cl, .int .i64 (x.made : Int), .slice ap x.plan.length cp, .bool x.dead] 30)) (.cells #[.int .i64 3, .int .i64 atv, .int .i64 nv, .string nm, .string tn, .string s, .slice pa pn pc] 35)
    rw [s1] at this
    exact (Below.heap_alloc _ _ _ (by rw [s2]; omega)).trans this
  have r3 : (((w.alloc (.cells #[.slice ao n cs, .slice al x.loose.length cl, .int .i64 (x.made : Int), .slice ap x.plan.length cp, .bool x.dead] 30)).alloc (.cells #[.int .i64 3, .int .i64 atv, .int .i64 nv, .string nm, .string tn, .string s, .slice pa pn pc] 35)).alloc (.cells (dcs (.slice none 0 0) (.slice none 0 0) 0 (.slice none 0 0) false) 30)).heap[w.heap.size + 2]? = some (.cells (dcs (.slice none 0 0) (.slice none 0 0) 0 (.slice none 0 0) false) 30 (0, 0)) := by
    have := heap_alloc_last ((w.alloc (.cells #[.slice ao n cs, .slice al x.loose.length cl, .int .i64 (x.made : Int), .slice ap x.plan.length cp, .bool x.dead] 30)).alloc (.cells #[.int .i64 3, .int .i64 atv, .int .i64 nv, .string nm, .string tn, .string s, .slice pa pn pc] 35)) (.cells (dcs (.slice none 0 0) (.slice none 0 0) 0 (.slice none 0 0) false) 30)
    rw [s2] at this
    exact this
  have hB : Below w.heap.size w (((w.alloc (.cells #[.slice ao n cs, .slice al x.loose.length cl, .int .i64 (x.made : Int), .slice ap x.plan.length cp, .bool x.dead] 30)).alloc (.cells #[.int .i64 3, .int .i64 atv, .int .i64 nv, .string nm, .string tn, .string s, .slice pa pn pc] 35)).alloc (.cells (dcs (.slice none 0 0) (.slice none 0 0) 0 (.slice none 0 0) false) 30)) := (((Below.refl w.heap.size w).alloc (Nat.le_refl _) _).alloc (by rw [s1]; omega) _).alloc (by rw [s2]; omega) _
  have HB := hide hB
  have R1 := hide r1
  have R2 := hide r2
  have R3 := hide r3
  have S3 := hide s3
  have D1 := hide (h.below hB)
  have H1 := hide (hm.up hB)
  have HT := hide HTl
  have HK : Hid (∀ g, grow K w (((w.alloc (.cells #[.slice ao n cs, .slice al x.loose.length cl, .int .i64 (x.made : Int), .slice ap x.plan.length cp, .bool x.dead] 30)).alloc (.cells #[.int .i64 3, .int .i64 atv, .int .i64 nv, .string nm, .string tn, .string s, .slice pa pn pc] 35)).alloc (.cells (dcs (.slice none 0 0) (.slice none 0 0) 0 (.slice none 0 0) false) 30)) g → g < (((w.alloc (.cells #[.slice ao n cs, .slice al x.loose.length cl, .int .i64 (x.made : Int), .slice ap x.plan.length cp, .bool x.dead] 30)).alloc (.cells #[.int .i64 3, .int .i64 atv, .int .i64 nv, .string nm, .string tn, .string s, .slice pa pn pc] 35)).alloc (.cells (dcs (.slice none 0 0) (.slice none 0 0) 0 (.slice none 0 0) false) 30)).heap.size) := grow_lt hKl hB.size
  have HKn : Hid (∀ g, T g → grow K w (((w.alloc (.cells #[.slice ao n cs, .slice al x.loose.length cl, .int .i64 (x.made : Int), .slice ap x.plan.length cp, .bool x.dead] 30)).alloc (.cells #[.int .i64 3, .int .i64 atv, .int .i64 nv, .string nm, .string tn, .string s, .slice pa pn pc] 35)).alloc (.cells (dcs (.slice none 0 0) (.slice none 0 0) 0 (.slice none 0 0) false) 30)) g) := fun g hg => .inl (hTK g hg)
  have HKk : Hid (∀ g, K g → grow K w (((w.alloc (.cells #[.slice ao n cs, .slice al x.loose.length cl, .int .i64 (x.made : Int), .slice ap x.plan.length cp, .bool x.dead] 30)).alloc (.cells #[.int .i64 3, .int .i64 atv, .int .i64 nv, .string nm, .string tn, .string s, .slice pa pn pc] 35)).alloc (.cells (dcs (.slice none 0 0) (.slice none 0 0) 0 (.slice none 0 0) false) 30)) g) := fun g hg => .inl hg
  have HKo : Hid (∀ g, w.heap.size ≤ g → g < w.heap.size + 3 → grow K w (((w.alloc (.cells #[.slice ao n cs, .slice al x.loose.length cl, .int .i64 (x.made : Int), .slice ap x.plan.length cp, .bool x.dead] 30)).alloc (.cells #[.int .i64 3, .int .i64 atv, .int .i64 nv, .string nm, .string tn, .string s, .slice pa pn pc] 35)).alloc (.cells (dcs (.slice none 0 0) (.slice none 0 0) 0 (.slice none 0 0) false) 30)) g) := fun g h1 h2 => .inr ⟨h1, by rw [s3]; omega⟩
  have HG := hide G
  have HX := hide (And.intro ha1 (And.intro ha2 (And.intro hn1 (And.intro hn2 (And.intro hs1 (And.intro hs2 (And.intro hs3 hnn)))))))
  clear hB r1 r2 r3 s3 h hm hTK hKl G HTl ha1 ha2 hn1 hn2 hs1 hs2 hs3 hnn
  generalize grow K w (((w.alloc (.cells #[.slice ao n cs, .slice al x.loose.length cl, .int .i64 (x.made : Int), .slice ap x.plan.length cp, .bool x.dead] 30)).alloc (.cells #[.int .i64 3, .int .i64 atv, .int .i64 nv, .string nm, .string tn, .string s, .slice pa pn pc] 35)).alloc (.cells (dcs (.slice none 0 0) (.slice none 0 0) 0 (.slice none 0 0) false) 30)) = K2 at *
  go_enter Try.func6, Try.ntmps6
  go_upto_region 1 with ((with_reducible refine at_list ?_); first | refine wpList_boxA rfl _ rfl _ rfl ?_ | refine wpList_allocA ADd rfl rfl ?_)
  try rw [s2]
  try rw [s1]
  clear s1 s2
  generalize (((w.alloc (.cells #[.slice ao n cs, .slice al x.loose.length cl, .int .i64 (x.made : Int), .slice ap x.plan.length cp, .bool x.dead] 30)).alloc (.cells #[.int .i64 3, .int .i64 atv, .int .i64 nv, .string nm, .string tn, .string s, .slice pa pn pc] 35)).alloc (.cells (dcs (.slice none 0 0) (.slice none 0 0) 0 (.slice none 0 0) false) 30)) = W1 at *
  generalize hgb : w.heap.size = b0 at *
  have CC : Hid (∀ W : World, W.heap[b0 + 1]? = some (.cells #[.int .i64 3, .int .i64 atv, .int .i64 nv, .string nm, .string tn, .string s, .slice pa pn pc] 35 (0, 0)) → W.cell? ⟨b0 + 1, 0, none⟩ = some (.int .i64 3) ∧ W.cell? ⟨b0 + 1, 1, none⟩ = some (.int .i64 atv) ∧ W.cell? ⟨b0 + 1, 2, none⟩ = some (.int .i64 nv) ∧ W.cell? ⟨b0 + 1, 3, none⟩ = some (.string nm) ∧ W.cell? ⟨b0 + 1, 4, none⟩ = some (.string tn) ∧ W.cell? ⟨b0 + 1, 5, none⟩ = some (.string s) ∧ W.cell? ⟨b0 + 1, 6, none⟩ = some (.slice pa pn pc)) := fun W e => by
    refine ⟨?_, ?_, ?_, ?_, ?_, ?_, ?_⟩ <;> (rw [cell_of_row _ _ _ _ _ _ e]; rfl)
  obtain ⟨c0, c1, c2, c3, c4, c5, c6⟩ := CC.out _ R2.out
  have HKn3 := hide HKn.out
  have HTb : Hid (∀ g, T g → g < b0) := HT.out
  go_upto_region 18 with (go_at_call 17; refine (pmove_all nm tn D1.out HG.out.vd (isD.rep H1.out HG.out.vd) HG.out.plan HX.out.2.2.2.2.1 HX.out.2.2.2.2.2.1 (by have := HG.out.many; have := HX.out.2.2.2.2.2.2.2; omega) (by have := HG.out.made; have := HX.out.2.2.2.2.2.2.2; omega)).mono ?_; rintro e W2 ⟨rfl, d2, f2⟩; have D2 := hide d2; have F2 := hide f2; clear d2 f2)
  clear c0 c1 c2 c3 c4 c5 c6
  have bk : ∀ j, j < 3 → W2.heap[b0 + j]? = W1.heap[b0 + j]? := fun j hj => F2.out.block _ (by have := S3.out; omega) (fun c => by have := HTb.out _ c; omega)
  have RA := hide ((bk 0 (by omega)).trans R1.out)
  have RC := hide ((bk 1 (by omega)).trans R2.out)
  have RB := hide ((bk 2 (by omega)).trans R3.out)
  clear bk
  obtain ⟨c0, c1, c2, c3, c4, c5, c6⟩ := CC.out _ RC.out
  have H2 : Hid (isD (grow K2 W1 W2) W2 (.agg #[.slice ao n cs, .slice al x.loose.length cl, .int .i64 (x.made : Int), .slice ap x.plan.length cp, .bool x.dead]) x) := H1.out.fr (F2.out.mono HKn.out)
  have HK3 : Hid (∀ g, grow K2 W1 W2 g → g < W2.heap.size) := grow_lt HK.out F2.out.size
  have HDc := hide (rmake_any 2 nm tn 0 ⟨#[]⟩ H2.out HG.out.vd HK3.out (by omega) HX.out.2.2.2.2.1 HX.out.2.2.2.2.2.1 (by decide) (by omega) (by omega) (fun h => by first | rfl | omega) HG.out.plan HG.out.pz (by have := HG.out.made; have := HX.out.2.2.2.2.2.2.2; omega))
  generalize hE0 : maE x 2 nm tn 0 ⟨#[]⟩ = e0 at *
  clear hE0
  generalize hX0 : maS x 2 nm tn 0 ⟨#[]⟩ = x0 at *
  have GX : Hid (Gd x0 (nn + 1)) := by
    show Gd x0 _
    rw [← hX0]
    exact HG.out.ma HX.out.2.2.2.2.2.2.2 (by omega) (fun h => absurd rfl h) (fun _ => rfl) (fun h => rfl)
  clear hX0
  go_upto_region 36 with (first | ((with_reducible refine at_list ?_); first | refine wpList_loadA ADd rfl _ rfl b0 rfl _ rfl _ RA.out ?_ | refine wpList_storeA ADd rfl _ _ rfl b0 _ (by rfl) (by simp [Value.oneCell']) rfl rfl _ (by rfl) _ RA3.out ?_) | (go_at_call 14; refine HDc.out.mono ?_; rintro e W3 ⟨v3, rfl, d3, b3⟩; obtain ⟨ao3, n3, cs3, al3, cl3, ap3, cp3, e3⟩ := d3.form; subst e3; have D3 := hide d3; have B3 := hide b3; have RA3 := hide ((b3.block _ (lt_heap RA.out)).trans RA.out); have RB3 := hide ((b3.block _ (lt_heap RB.out)).trans RB.out); clear d3 b3))
  try simp only [Act.put]
  have R4 : Hid ((W3.setRow b0 #[.slice ao3 n3 cs3, .slice al3 x0.loose.length cl3, .int .i64 (x0.made : Int), .slice ap3 x0.plan.length cp3, .bool x0.dead]).heap[b0]? = some (.cells #[.slice ao3 n3 cs3, .slice al3 x0.loose.length cl3, .int .i64 (x0.made : Int), .slice ap3 x0.plan.length cp3, .bool x0.dead] 30 (0, 0))) := setRow_heap _ _ _ _ _ _ RA3.out
  have RB4 : Hid ((W3.setRow b0 #[.slice ao3 n3 cs3, .slice al3 x0.loose.length cl3, .int .i64 (x0.made : Int), .slice ap3 x0.plan.length cp3, .bool x0.dead]).heap[b0 + 2]? = some (.cells (dcs (.slice none 0 0) (.slice none 0 0) 0 (.slice none 0 0) false) 30 (0, 0))) := (setRow_other _ _ _ _ (by omega)).trans RB3.out
  have D4 : Hid (isD (grow K2 W1 W2) (W3.setRow b0 #[.slice ao3 n3 cs3, .slice al3 x0.loose.length cl3, .int .i64 (x0.made : Int), .slice ap3 x0.plan.length cp3, .bool x0.dead]) (.agg #[.slice ao3 n3 cs3, .slice al3 x0.loose.length cl3, .int .i64 (x0.made : Int), .slice ap3 x0.plan.length cp3, .bool x0.dead]) x0) := D3.out.write (Fr.setRow W3 (.inl (HKo.out b0 (Nat.le_refl _) (by omega))) _)
  have P4 : Hid (DK (W3.setRow b0 #[.slice ao3 n3 cs3, .slice al3 x0.loose.length cl3, .int .i64 (x0.made : Int), .slice ap3 x0.plan.length cp3, .bool x0.dead]) gd x0 (grow T W1 W2)) := (D2.out.below B3.out).keep (by simp) (fun g hg => setRow_other _ _ _ _ (fun e => by
    subst e
    rcases hg with hg | ⟨hg, _⟩
    · have := HTb.out _ hg; omega
    · have := S3.out; omega))
  have F4 : Hid (Fr T w (W3.setRow b0 #[.slice ao3 n3 cs3, .slice al3 x0.loose.length cl3, .int .i64 (x0.made : Int), .slice ap3 x0.plan.length cp3, .bool x0.dead])) := by
    have h1 : Fr T w W3 := ((Fr.of_below (by have := HB.out; rw [← hgb] at this; exact this)).trans' F2.out).trans' (Fr.of_below B3.out)
    exact h1.newRow (by omega) _
  clear RA RC RB RA3 RB3 D3 B3 D2 H2
  generalize (W3.setRow b0 #[.slice ao3 n3 cs3, .slice al3 x0.loose.length cl3, .int .i64 (x0.made : Int), .slice ap3 x0.plan.length cp3, .bool x0.dead]) = W4 at *
  refine wp_region_held_drew (S := fun W => W.heap[b0]? = some (.cells #[.slice ao3 n3 cs3, .slice al3 x0.loose.length cl3, .int .i64 (x0.made : Int), .slice ap3 x0.plan.length cp3, .bool x0.dead] 30 (0, 0))) (by kernel_rfl) R4.out (fun hH => ?_)
  refine wpAnyH_take (i := 0) (v := .pointer (some ⟨gd, 0, none⟩)) rfl (by kernel_rfl) (by kernel_rfl) (by kernel_rfl) (fun _ _ _ h => h) (yl_move (by rfl) _ (by rfl) _ (by rfl)) hH ?_
  change wpAnyH _ _ _ _ _ _ _ (Act.put _ (some 160) _) _
  simp only [Act.put, List.setIfInBounds_toArray, List.set_cons_zero, List.set_cons_succ]
  refine wpAnyH_take (i := 1) (v := .agg #[.slice ao3 n3 cs3, .slice al3 x0.loose.length cl3, .int .i64 (x0.made : Int), .slice ap3 x0.plan.length cp3, .bool x0.dead]) rfl (by kernel_rfl) (by kernel_rfl) (by kernel_rfl) (fun _ _ _ h => h) (yl_load (by rfl) _ (by rfl) _ _ (by rfl) (fun W hS => ld_row ADd rfl hS)) hH ?_
  change wpAnyH _ _ _ _ _ _ _ (Act.put _ (some 161) _) _
  simp only [Act.put, List.setIfInBounds_toArray, List.set_cons_zero, List.set_cons_succ]
  refine wpAnyH_take (i := 2) (v := .int .i64 e0) rfl (by kernel_rfl) (by kernel_rfl) (by kernel_rfl) (fun _ _ _ h => h) (yl_move (by rfl) _ (by rfl) _ (by rfl)) hH ?_
  change wpAnyH _ _ _ _ _ _ _ (Act.put _ (some 162) _) _
  simp only [Act.put, List.setIfInBounds_toArray, List.set_cons_zero, List.set_cons_succ]
  refine wpAnyH_take (i := 3) (v := .int .i64 e0) rfl (by kernel_rfl) (by kernel_rfl) (by kernel_rfl) (fun _ _ _ h => h) (yl_move (by rfl) _ (by rfl) _ (by rfl)) hH ?_
  change wpAnyH _ _ _ _ _ _ _ (Act.put _ (some 163) _) _
  simp only [Act.put, List.setIfInBounds_toArray, List.set_cons_zero, List.set_cons_succ]
  refine wpAnyH_take (i := 4) (v := .bool true) rfl (by kernel_rfl) (by kernel_rfl) (by kernel_rfl) (fun _ _ _ h => h) (.inl ⟨by rfl, fun W _ => by go_simp⟩) hH ?_
  change wpAnyH _ _ _ _ _ _ _ (Act.put _ (some 164) _) _
  simp only [Act.put, List.setIfInBounds_toArray, List.set_cons_zero, List.set_cons_succ]
  refine wpAnyH_take (i := 5) (v := .pointer (some ⟨gd, 0, none⟩)) rfl (by kernel_rfl) (by kernel_rfl) (by kernel_rfl) (fun _ _ _ h => h) (.inl ⟨by rfl, fun W _ => by go_simp⟩) hH ?_
  change wpAnyH _ _ _ _ _ _ _ (Act.put _ (some 6) _) _
  simp only [Act.put, List.setIfInBounds_toArray, List.set_cons_zero, List.set_cons_succ]
  have R5 : Hid (W4.drew.heap[b0]? = some (.cells #[.slice ao3 n3 cs3, .slice al3 x0.loose.length cl3, .int .i64 (x0.made : Int), .slice ap3 x0.plan.length cp3, .bool x0.dead] 30 (0, 0))) := R4.out
  have RB5 : Hid (W4.drew.heap[b0 + 2]? = some (.cells (dcs (.slice none 0 0) (.slice none 0 0) 0 (.slice none 0 0) false) 30 (0, 0))) := RB4.out
  have D5 := hide (D4.out.next (Below.refl W4.heap.size W4).drew)
  have P5 := hide (P4.out.below (Below.refl W4.heap.size W4).drew)
  have F5 : Hid (Fr T w W4.drew) := F4.out.trans' (Fr.of_below (Below.refl W4.heap.size W4).drew)
  clear R4 RB4 D4 P4 F4
  generalize W4.drew = W5 at *
  refine wpAnyH_ready (rs := [6]) (by kernel_rfl) (by simp) (AllReadyH.cons rfl (fun K1 hK1 => ?_) AllReadyH.nil)
  refine stepStoreA ADd (by rfl) _ _ (by rfl) (b0 + 2) #[.slice ao3 n3 cs3, .slice al3 x0.loose.length cl3, .int .i64 (x0.made : Int), .slice ap3 x0.plan.length cp3, .bool x0.dead] (by rfl) (by simp [Value.oneCell']) (by rfl) (by rfl) _ (by rfl) _ RB5.out ?_
  refine hK1.out _ _ ((setRow_other _ _ _ _ (by omega)).trans R5.out) (fun hH => ?_)
  clear hK1
  try simp only [Act.put]
  refine wpAnyH_take (i := 7) (v := .bool true) rfl (by kernel_rfl) (by kernel_rfl) (by kernel_rfl) (fun _ _ _ h => h) (.inl ⟨by rfl, fun W _ => by go_simp⟩) hH ?_
  change wpAnyH _ _ _ _ _ _ _ (Act.put _ (some 8) _) _
  simp only [Act.put, List.setIfInBounds_toArray, List.set_cons_zero, List.set_cons_succ]
  refine wpAnyH_done (by kernel_rfl) ?_ _
  go_wp2
  refine bodyPost_ret (res3b ADd Try.results6 _ _ (b0 + 2) 30 _ rfl (by rfl) (setRow_heap _ _ _ _ _ _ RB5.out) _ (by rfl) _ (by rfl)) rfl ?_
  refine ⟨gd, x0, grow T W1 W2, _, rfl, P5.out.keep (by simp) (fun g hg => setRow_other _ _ _ _ (fun e => by
    subst e
    rcases hg with hg | ⟨hg, _⟩
    · have := HTb.out _ hg; omega
    · have := S3.out; omega)), (D5.out.write (Fr.setRow W5 (.inl (HKo.out (b0 + 2) (by omega) (by omega))) _)).mono (fun g hg => ?_), GX.out, F5.out.newRow (by omega) _, fun g hg => ?_⟩
  · rcases hg with (hg | hg) | hg
    · exact .inl (HKn.out g hg)
    · exact .inr hg
    · exact .inl (HKk.out g hg)
  · rcases hg with hg | ⟨hg, _⟩
    · exact .inl hg
    · right
      have := S3.out
      omega
theorem one_4 (h : DK w gd x T) (hm : isD K w mv x) (hTK : ∀ g, T g → K g) (hKl : ∀ g, K g → g < w.heap.size) (G : Gd x nn) (hnn : nn ≤ 9000) (atv nv : Int) (nm tn s : ByteArray) (pa : Option Addr) (pn pc : Nat) (ha1 : -9223372036854775808 ≤ atv) (ha2 : atv < 9223372036854775808) (hn1 : -9223372036854775808 ≤ nv) (hn2 : nv < 9223372036854775808) (hs1 : nm.size ≤ maxLen) (hs2 : tn.size ≤ maxLen) (hs3 : s.size ≤ maxLen) : Calls Try.prog 6 #[.pointer (some ⟨gd, 0, none⟩), mv, .agg #[.int .i64 4, .int .i64 atv, .int .i64 nv, .string nm, .string tn, .string s, .slice pa pn pc]] w (OneP w K T (nn + 1)) := by
  have HTl : ∀ g, T g → g < w.heap.size := h.lt
  obtain ⟨ao, n, cs, al, cl, ap, cp, rfl⟩ := hm.form
  have s1 : (w.alloc (.cells #[.slice ao n cs, .slice al x.loose.length cl, .int .i64 (x.made : Int), .slice ap x.plan.length cp, .bool x.dead] 30)).heap.size = w.heap.size + 1 := by simp
  have s2 : ((w.alloc (.cells #[.slice ao n cs, .slice al x.loose.length cl, .int .i64 (x.made : Int), .slice ap x.plan.length cp, .bool x.dead] 30)).alloc (.cells #[.int .i64 4, .int .i64 atv, .int .i64 nv, .string nm, .string tn, .string s, .slice pa pn pc] 35)).heap.size = w.heap.size + 2 := by simp
  have s3 : (((w.alloc (.cells #[.slice ao n cs, .slice al x.loose.length cl, .int .i64 (x.made : Int), .slice ap x.plan.length cp, .bool x.dead] 30)).alloc (.cells #[.int .i64 4, .int .i64 atv, .int .i64 nv, .string nm, .string tn, .string s, .slice pa pn pc] 35)).alloc (.cells (dcs (.slice none 0 0) (.slice none 0 0) 0 (.slice none 0 0) false) 30)).heap.size = w.heap.size + 3 := by simp
  have r1 : (((w.alloc (.cells #[.slice ao n cs, .slice al x.loose.length cl, .int .i64 (x.made : Int), .slice ap x.plan.length cp, .bool x.dead] 30)).alloc (.cells #[.int .i64 4, .int .i64 atv, .int .i64 nv, .string nm, .string tn, .string s, .slice pa pn pc] 35)).alloc (.cells (dcs (.slice none 0 0) (.slice none 0 0) 0 (.slice none 0 0) false) 30)).heap[w.heap.size]? = some (.cells #[.slice ao n cs, .slice al x.loose.length cl, .int .i64 (x.made : Int), .slice ap x.plan.length cp, .bool x.dead] 30 (0, 0)) := (Below.heap_alloc _ _ _ (by rw [s2]; omega)).trans ((Below.heap_alloc _ _ _ (by rw [s1]; omega)).trans (heap_alloc_last w _))
  have r2 : (((w.alloc (.cells #[.slice ao n cs, .slice al x.loose.length cl, .int .i64 (x.made : Int), .slice ap x.plan.length cp, .bool x.dead] 30)).alloc (.cells #[.int .i64 4, .int .i64 atv, .int .i64 nv, .string nm, .string tn, .string s, .slice pa pn pc] 35)).alloc (.cells (dcs (.slice none 0 0) (.slice none 0 0) 0 (.slice none 0 0) false) 30)).heap[w.heap.size + 1]? = some (.cells #[.int .i64 4, .int .i64 atv, .int .i64 nv, .string nm, .string tn, .string s, .slice pa pn pc] 35 (0, 0)) := by
    have := heap_alloc_last (w.alloc (.cells #[.slice ao n cs, .slice al x.loose.length cl, .int .i64 (x.made : Int), .slice ap x.plan.length cp, .bool x.dead] 30)) (.cells #[.int .i64 4, .int .i64 atv, .int .i64 nv, .string nm, .string tn, .string s, .slice pa pn pc] 35)
    rw [s1] at this
    exact (Below.heap_alloc _ _ _ (by rw [s2]; omega)).trans this
  have r3 : (((w.alloc (.cells #[.slice ao n cs, .slice al x.loose.length cl, .int .i64 (x.made : Int), .slice ap x.plan.length cp, .bool x.dead] 30)).alloc (.cells #[.int .i64 4, .int .i64 atv, .int .i64 nv, .string nm, .string tn, .string s, .slice pa pn pc] 35)).alloc (.cells (dcs (.slice none 0 0) (.slice none 0 0) 0 (.slice none 0 0) false) 30)).heap[w.heap.size + 2]? = some (.cells (dcs (.slice none 0 0) (.slice none 0 0) 0 (.slice none 0 0) false) 30 (0, 0)) := by
    have := heap_alloc_last ((w.alloc (.cells #[.slice ao n cs, .slice al x.loose.length cl, .int .i64 (x.made : Int), .slice ap x.plan.length cp, .bool x.dead] 30)).alloc (.cells #[.int .i64 4, .int .i64 atv, .int .i64 nv, .string nm, .string tn, .string s, .slice pa pn pc] 35)) (.cells (dcs (.slice none 0 0) (.slice none 0 0) 0 (.slice none 0 0) false) 30)
    rw [s2] at this
    exact this
  have hB : Below w.heap.size w (((w.alloc (.cells #[.slice ao n cs, .slice al x.loose.length cl, .int .i64 (x.made : Int), .slice ap x.plan.length cp, .bool x.dead] 30)).alloc (.cells #[.int .i64 4, .int .i64 atv, .int .i64 nv, .string nm, .string tn, .string s, .slice pa pn pc] 35)).alloc (.cells (dcs (.slice none 0 0) (.slice none 0 0) 0 (.slice none 0 0) false) 30)) := (((Below.refl w.heap.size w).alloc (Nat.le_refl _) _).alloc (by rw [s1]; omega) _).alloc (by rw [s2]; omega) _
  have HB := hide hB
  have R1 := hide r1
  have R2 := hide r2
  have R3 := hide r3
  have S3 := hide s3
  have D1 := hide (h.below hB)
  have H1 := hide (hm.up hB)
  have HT := hide HTl
  have HK : Hid (∀ g, grow K w (((w.alloc (.cells #[.slice ao n cs, .slice al x.loose.length cl, .int .i64 (x.made : Int), .slice ap x.plan.length cp, .bool x.dead] 30)).alloc (.cells #[.int .i64 4, .int .i64 atv, .int .i64 nv, .string nm, .string tn, .string s, .slice pa pn pc] 35)).alloc (.cells (dcs (.slice none 0 0) (.slice none 0 0) 0 (.slice none 0 0) false) 30)) g → g < (((w.alloc (.cells #[.slice ao n cs, .slice al x.loose.length cl, .int .i64 (x.made : Int), .slice ap x.plan.length cp, .bool x.dead] 30)).alloc (.cells #[.int .i64 4, .int .i64 atv, .int .i64 nv, .string nm, .string tn, .string s, .slice pa pn pc] 35)).alloc (.cells (dcs (.slice none 0 0) (.slice none 0 0) 0 (.slice none 0 0) false) 30)).heap.size) := grow_lt hKl hB.size
  have HKn : Hid (∀ g, T g → grow K w (((w.alloc (.cells #[.slice ao n cs, .slice al x.loose.length cl, .int .i64 (x.made : Int), .slice ap x.plan.length cp, .bool x.dead] 30)).alloc (.cells #[.int .i64 4, .int .i64 atv, .int .i64 nv, .string nm, .string tn, .string s, .slice pa pn pc] 35)).alloc (.cells (dcs (.slice none 0 0) (.slice none 0 0) 0 (.slice none 0 0) false) 30)) g) := fun g hg => .inl (hTK g hg)
  have HKk : Hid (∀ g, K g → grow K w (((w.alloc (.cells #[.slice ao n cs, .slice al x.loose.length cl, .int .i64 (x.made : Int), .slice ap x.plan.length cp, .bool x.dead] 30)).alloc (.cells #[.int .i64 4, .int .i64 atv, .int .i64 nv, .string nm, .string tn, .string s, .slice pa pn pc] 35)).alloc (.cells (dcs (.slice none 0 0) (.slice none 0 0) 0 (.slice none 0 0) false) 30)) g) := fun g hg => .inl hg
  have HKo : Hid (∀ g, w.heap.size ≤ g → g < w.heap.size + 3 → grow K w (((w.alloc (.cells #[.slice ao n cs, .slice al x.loose.length cl, .int .i64 (x.made : Int), .slice ap x.plan.length cp, .bool x.dead] 30)).alloc (.cells #[.int .i64 4, .int .i64 atv, .int .i64 nv, .string nm, .string tn, .string s, .slice pa pn pc] 35)).alloc (.cells (dcs (.slice none 0 0) (.slice none 0 0) 0 (.slice none 0 0) false) 30)) g) := fun g h1 h2 => .inr ⟨h1, by rw [s3]; omega⟩
  have HG := hide G
  have HX := hide (And.intro ha1 (And.intro ha2 (And.intro hn1 (And.intro hn2 (And.intro hs1 (And.intro hs2 (And.intro hs3 hnn)))))))
  clear hB r1 r2 r3 s3 h hm hTK hKl G HTl ha1 ha2 hn1 hn2 hs1 hs2 hs3 hnn
  generalize grow K w (((w.alloc (.cells #[.slice ao n cs, .slice al x.loose.length cl, .int .i64 (x.made : Int), .slice ap x.plan.length cp, .bool x.dead] 30)).alloc (.cells #[.int .i64 4, .int .i64 atv, .int .i64 nv, .string nm, .string tn, .string s, .slice pa pn pc] 35)).alloc (.cells (dcs (.slice none 0 0) (.slice none 0 0) 0 (.slice none 0 0) false) 30)) = K2 at *
  go_enter Try.func6, Try.ntmps6
  go_upto_region 1 with ((with_reducible refine at_list ?_); first | refine wpList_boxA rfl _ rfl _ rfl ?_ | refine wpList_allocA ADd rfl rfl ?_)
  try rw [s2]
  try rw [s1]
  clear s1 s2
  generalize (((w.alloc (.cells #[.slice ao n cs, .slice al x.loose.length cl, .int .i64 (x.made : Int), .slice ap x.plan.length cp, .bool x.dead] 30)).alloc (.cells #[.int .i64 4, .int .i64 atv, .int .i64 nv, .string nm, .string tn, .string s, .slice pa pn pc] 35)).alloc (.cells (dcs (.slice none 0 0) (.slice none 0 0) 0 (.slice none 0 0) false) 30)) = W1 at *
  generalize hgb : w.heap.size = b0 at *
  have CC : Hid (∀ W : World, W.heap[b0 + 1]? = some (.cells #[.int .i64 4, .int .i64 atv, .int .i64 nv, .string nm, .string tn, .string s, .slice pa pn pc] 35 (0, 0)) → W.cell? ⟨b0 + 1, 0, none⟩ = some (.int .i64 4) ∧ W.cell? ⟨b0 + 1, 1, none⟩ = some (.int .i64 atv) ∧ W.cell? ⟨b0 + 1, 2, none⟩ = some (.int .i64 nv) ∧ W.cell? ⟨b0 + 1, 3, none⟩ = some (.string nm) ∧ W.cell? ⟨b0 + 1, 4, none⟩ = some (.string tn) ∧ W.cell? ⟨b0 + 1, 5, none⟩ = some (.string s) ∧ W.cell? ⟨b0 + 1, 6, none⟩ = some (.slice pa pn pc)) := fun W e => by
    refine ⟨?_, ?_, ?_, ?_, ?_, ?_, ?_⟩ <;> (rw [cell_of_row _ _ _ _ _ _ e]; rfl)
  obtain ⟨c0, c1, c2, c3, c4, c5, c6⟩ := CC.out _ R2.out
  have HKn3 := hide HKn.out
  have HTb : Hid (∀ g, T g → g < b0) := HT.out
  go_upto_region 21 with (go_at_call 18; refine (premove_all nm D1.out HG.out.vd HG.out.plan HX.out.2.2.2.2.1 (by have := HG.out.many; have := HX.out.2.2.2.2.2.2.2; omega) (by have := HG.out.made; have := HX.out.2.2.2.2.2.2.2; omega)).mono ?_; rintro e W2 ⟨rfl, d2, f2⟩; have D2 := hide d2; have F2 := hide f2; clear d2 f2)
  clear c0 c1 c2 c3 c4 c5 c6
  have bk : ∀ j, j < 3 → W2.heap[b0 + j]? = W1.heap[b0 + j]? := fun j hj => F2.out.block _ (by have := S3.out; omega) (fun c => by have := HTb.out _ c; omega)
  have RA := hide ((bk 0 (by omega)).trans R1.out)
  have RC := hide ((bk 1 (by omega)).trans R2.out)
  have RB := hide ((bk 2 (by omega)).trans R3.out)
  clear bk
  obtain ⟨c0, c1, c2, c3, c4, c5, c6⟩ := CC.out _ RC.out
  have H2 : Hid (isD (grow K2 W1 W2) W2 (.agg #[.slice ao n cs, .slice al x.loose.length cl, .int .i64 (x.made : Int), .slice ap x.plan.length cp, .bool x.dead]) x) := H1.out.fr (F2.out.mono HKn.out)
  have HK3 : Hid (∀ g, grow K2 W1 W2 g → g < W2.heap.size) := grow_lt HK.out F2.out.size
  have HDc := hide (rmake_any 3 nm ⟨#[]⟩ 0 ⟨#[]⟩ H2.out HG.out.vd HK3.out (by omega) HX.out.2.2.2.2.1 (by decide) (by decide) (by omega) (by omega) (fun h => by first | rfl | omega) HG.out.plan HG.out.pz (by have := HG.out.made; have := HX.out.2.2.2.2.2.2.2; omega))
  generalize hE0 : maE x 3 nm ⟨#[]⟩ 0 ⟨#[]⟩ = e0 at *
  clear hE0
  generalize hX0 : maS x 3 nm ⟨#[]⟩ 0 ⟨#[]⟩ = x0 at *
  have GX : Hid (Gd x0 (nn + 1)) := by
    show Gd x0 _
    rw [← hX0]
    exact HG.out.ma HX.out.2.2.2.2.2.2.2 (by omega) (fun _ => rfl) (fun _ => rfl) (fun h => rfl)
  clear hX0
  go_upto_region 36 with (first | ((with_reducible refine at_list ?_); first | refine wpList_loadA ADd rfl _ rfl b0 rfl _ rfl _ RA.out ?_ | refine wpList_storeA ADd rfl _ _ rfl b0 _ (by rfl) (by simp [Value.oneCell']) rfl rfl _ (by rfl) _ RA3.out ?_) | (go_at_call 14; refine HDc.out.mono ?_; rintro e W3 ⟨v3, rfl, d3, b3⟩; obtain ⟨ao3, n3, cs3, al3, cl3, ap3, cp3, e3⟩ := d3.form; subst e3; have D3 := hide d3; have B3 := hide b3; have RA3 := hide ((b3.block _ (lt_heap RA.out)).trans RA.out); have RB3 := hide ((b3.block _ (lt_heap RB.out)).trans RB.out); clear d3 b3))
  try simp only [Act.put]
  have R4 : Hid ((W3.setRow b0 #[.slice ao3 n3 cs3, .slice al3 x0.loose.length cl3, .int .i64 (x0.made : Int), .slice ap3 x0.plan.length cp3, .bool x0.dead]).heap[b0]? = some (.cells #[.slice ao3 n3 cs3, .slice al3 x0.loose.length cl3, .int .i64 (x0.made : Int), .slice ap3 x0.plan.length cp3, .bool x0.dead] 30 (0, 0))) := setRow_heap _ _ _ _ _ _ RA3.out
  have RB4 : Hid ((W3.setRow b0 #[.slice ao3 n3 cs3, .slice al3 x0.loose.length cl3, .int .i64 (x0.made : Int), .slice ap3 x0.plan.length cp3, .bool x0.dead]).heap[b0 + 2]? = some (.cells (dcs (.slice none 0 0) (.slice none 0 0) 0 (.slice none 0 0) false) 30 (0, 0))) := (setRow_other _ _ _ _ (by omega)).trans RB3.out
  have D4 : Hid (isD (grow K2 W1 W2) (W3.setRow b0 #[.slice ao3 n3 cs3, .slice al3 x0.loose.length cl3, .int .i64 (x0.made : Int), .slice ap3 x0.plan.length cp3, .bool x0.dead]) (.agg #[.slice ao3 n3 cs3, .slice al3 x0.loose.length cl3, .int .i64 (x0.made : Int), .slice ap3 x0.plan.length cp3, .bool x0.dead]) x0) := D3.out.write (Fr.setRow W3 (.inl (HKo.out b0 (Nat.le_refl _) (by omega))) _)
  have P4 : Hid (DK (W3.setRow b0 #[.slice ao3 n3 cs3, .slice al3 x0.loose.length cl3, .int .i64 (x0.made : Int), .slice ap3 x0.plan.length cp3, .bool x0.dead]) gd x0 (grow T W1 W2)) := (D2.out.below B3.out).keep (by simp) (fun g hg => setRow_other _ _ _ _ (fun e => by
    subst e
    rcases hg with hg | ⟨hg, _⟩
    · have := HTb.out _ hg; omega
    · have := S3.out; omega))
  have F4 : Hid (Fr T w (W3.setRow b0 #[.slice ao3 n3 cs3, .slice al3 x0.loose.length cl3, .int .i64 (x0.made : Int), .slice ap3 x0.plan.length cp3, .bool x0.dead])) := by
    have h1 : Fr T w W3 := ((Fr.of_below (by have := HB.out; rw [← hgb] at this; exact this)).trans' F2.out).trans' (Fr.of_below B3.out)
    exact h1.newRow (by omega) _
  clear RA RC RB RA3 RB3 D3 B3 D2 H2
  generalize (W3.setRow b0 #[.slice ao3 n3 cs3, .slice al3 x0.loose.length cl3, .int .i64 (x0.made : Int), .slice ap3 x0.plan.length cp3, .bool x0.dead]) = W4 at *
  refine wp_region_held_drew (S := fun W => W.heap[b0]? = some (.cells #[.slice ao3 n3 cs3, .slice al3 x0.loose.length cl3, .int .i64 (x0.made : Int), .slice ap3 x0.plan.length cp3, .bool x0.dead] 30 (0, 0))) (by kernel_rfl) R4.out (fun hH => ?_)
  refine wpAnyH_take (i := 0) (v := .pointer (some ⟨gd, 0, none⟩)) rfl (by kernel_rfl) (by kernel_rfl) (by kernel_rfl) (fun _ _ _ h => h) (yl_move (by rfl) _ (by rfl) _ (by rfl)) hH ?_
  change wpAnyH _ _ _ _ _ _ _ (Act.put _ (some 160) _) _
  simp only [Act.put, List.setIfInBounds_toArray, List.set_cons_zero, List.set_cons_succ]
  refine wpAnyH_take (i := 1) (v := .agg #[.slice ao3 n3 cs3, .slice al3 x0.loose.length cl3, .int .i64 (x0.made : Int), .slice ap3 x0.plan.length cp3, .bool x0.dead]) rfl (by kernel_rfl) (by kernel_rfl) (by kernel_rfl) (fun _ _ _ h => h) (yl_load (by rfl) _ (by rfl) _ _ (by rfl) (fun W hS => ld_row ADd rfl hS)) hH ?_
  change wpAnyH _ _ _ _ _ _ _ (Act.put _ (some 161) _) _
  simp only [Act.put, List.setIfInBounds_toArray, List.set_cons_zero, List.set_cons_succ]
  refine wpAnyH_take (i := 2) (v := .int .i64 e0) rfl (by kernel_rfl) (by kernel_rfl) (by kernel_rfl) (fun _ _ _ h => h) (yl_move (by rfl) _ (by rfl) _ (by rfl)) hH ?_
  change wpAnyH _ _ _ _ _ _ _ (Act.put _ (some 162) _) _
  simp only [Act.put, List.setIfInBounds_toArray, List.set_cons_zero, List.set_cons_succ]
  refine wpAnyH_take (i := 3) (v := .int .i64 e0) rfl (by kernel_rfl) (by kernel_rfl) (by kernel_rfl) (fun _ _ _ h => h) (yl_move (by rfl) _ (by rfl) _ (by rfl)) hH ?_
  change wpAnyH _ _ _ _ _ _ _ (Act.put _ (some 163) _) _
  simp only [Act.put, List.setIfInBounds_toArray, List.set_cons_zero, List.set_cons_succ]
  refine wpAnyH_take (i := 4) (v := .bool true) rfl (by kernel_rfl) (by kernel_rfl) (by kernel_rfl) (fun _ _ _ h => h) (.inl ⟨by rfl, fun W _ => by go_simp⟩) hH ?_
  change wpAnyH _ _ _ _ _ _ _ (Act.put _ (some 164) _) _
  simp only [Act.put, List.setIfInBounds_toArray, List.set_cons_zero, List.set_cons_succ]
  refine wpAnyH_take (i := 5) (v := .pointer (some ⟨gd, 0, none⟩)) rfl (by kernel_rfl) (by kernel_rfl) (by kernel_rfl) (fun _ _ _ h => h) (.inl ⟨by rfl, fun W _ => by go_simp⟩) hH ?_
  change wpAnyH _ _ _ _ _ _ _ (Act.put _ (some 6) _) _
  simp only [Act.put, List.setIfInBounds_toArray, List.set_cons_zero, List.set_cons_succ]
  have R5 : Hid (W4.drew.heap[b0]? = some (.cells #[.slice ao3 n3 cs3, .slice al3 x0.loose.length cl3, .int .i64 (x0.made : Int), .slice ap3 x0.plan.length cp3, .bool x0.dead] 30 (0, 0))) := R4.out
  have RB5 : Hid (W4.drew.heap[b0 + 2]? = some (.cells (dcs (.slice none 0 0) (.slice none 0 0) 0 (.slice none 0 0) false) 30 (0, 0))) := RB4.out
  have D5 := hide (D4.out.next (Below.refl W4.heap.size W4).drew)
  have P5 := hide (P4.out.below (Below.refl W4.heap.size W4).drew)
  have F5 : Hid (Fr T w W4.drew) := F4.out.trans' (Fr.of_below (Below.refl W4.heap.size W4).drew)
  clear R4 RB4 D4 P4 F4
  generalize W4.drew = W5 at *
  refine wpAnyH_ready (rs := [6]) (by kernel_rfl) (by simp) (AllReadyH.cons rfl (fun K1 hK1 => ?_) AllReadyH.nil)
  refine stepStoreA ADd (by rfl) _ _ (by rfl) (b0 + 2) #[.slice ao3 n3 cs3, .slice al3 x0.loose.length cl3, .int .i64 (x0.made : Int), .slice ap3 x0.plan.length cp3, .bool x0.dead] (by rfl) (by simp [Value.oneCell']) (by rfl) (by rfl) _ (by rfl) _ RB5.out ?_
  refine hK1.out _ _ ((setRow_other _ _ _ _ (by omega)).trans R5.out) (fun hH => ?_)
  clear hK1
  try simp only [Act.put]
  refine wpAnyH_take (i := 7) (v := .bool true) rfl (by kernel_rfl) (by kernel_rfl) (by kernel_rfl) (fun _ _ _ h => h) (.inl ⟨by rfl, fun W _ => by go_simp⟩) hH ?_
  change wpAnyH _ _ _ _ _ _ _ (Act.put _ (some 8) _) _
  simp only [Act.put, List.setIfInBounds_toArray, List.set_cons_zero, List.set_cons_succ]
  refine wpAnyH_done (by kernel_rfl) ?_ _
  go_wp2
  refine bodyPost_ret (res3b ADd Try.results6 _ _ (b0 + 2) 30 _ rfl (by rfl) (setRow_heap _ _ _ _ _ _ RB5.out) _ (by rfl) _ (by rfl)) rfl ?_
  refine ⟨gd, x0, grow T W1 W2, _, rfl, P5.out.keep (by simp) (fun g hg => setRow_other _ _ _ _ (fun e => by
    subst e
    rcases hg with hg | ⟨hg, _⟩
    · have := HTb.out _ hg; omega
    · have := S3.out; omega)), (D5.out.write (Fr.setRow W5 (.inl (HKo.out (b0 + 2) (by omega) (by omega))) _)).mono (fun g hg => ?_), GX.out, F5.out.newRow (by omega) _, fun g hg => ?_⟩
  · rcases hg with (hg | hg) | hg
    · exact .inl (HKn.out g hg)
    · exact .inr hg
    · exact .inl (HKk.out g hg)
  · rcases hg with hg | ⟨hg, _⟩
    · exact .inl hg
    · right
      have := S3.out
      omega
theorem one_5 (h : DK w gd x T) (hm : isD K w mv x) (hTK : ∀ g, T g → K g) (hKl : ∀ g, K g → g < w.heap.size) (G : Gd x nn) (hnn : nn ≤ 9000) (atv nv : Int) (nm tn s : ByteArray) (pa : Option Addr) (pn pc : Nat) (ha1 : -9223372036854775808 ≤ atv) (ha2 : atv < 9223372036854775808) (hn1 : -9223372036854775808 ≤ nv) (hn2 : nv < 9223372036854775808) (hs1 : nm.size ≤ maxLen) (hs2 : tn.size ≤ maxLen) (hs3 : s.size ≤ maxLen) : Calls Try.prog 6 #[.pointer (some ⟨gd, 0, none⟩), mv, .agg #[.int .i64 5, .int .i64 atv, .int .i64 nv, .string nm, .string tn, .string s, .slice pa pn pc]] w (OneP w K T (nn + 1)) := by
  have HTl : ∀ g, T g → g < w.heap.size := h.lt
  obtain ⟨ao, n, cs, al, cl, ap, cp, rfl⟩ := hm.form
  have s1 : (w.alloc (.cells #[.slice ao n cs, .slice al x.loose.length cl, .int .i64 (x.made : Int), .slice ap x.plan.length cp, .bool x.dead] 30)).heap.size = w.heap.size + 1 := by simp
  have s2 : ((w.alloc (.cells #[.slice ao n cs, .slice al x.loose.length cl, .int .i64 (x.made : Int), .slice ap x.plan.length cp, .bool x.dead] 30)).alloc (.cells #[.int .i64 5, .int .i64 atv, .int .i64 nv, .string nm, .string tn, .string s, .slice pa pn pc] 35)).heap.size = w.heap.size + 2 := by simp
  have s3 : (((w.alloc (.cells #[.slice ao n cs, .slice al x.loose.length cl, .int .i64 (x.made : Int), .slice ap x.plan.length cp, .bool x.dead] 30)).alloc (.cells #[.int .i64 5, .int .i64 atv, .int .i64 nv, .string nm, .string tn, .string s, .slice pa pn pc] 35)).alloc (.cells (dcs (.slice none 0 0) (.slice none 0 0) 0 (.slice none 0 0) false) 30)).heap.size = w.heap.size + 3 := by simp
  have r1 : (((w.alloc (.cells #[.slice ao n cs, .slice al x.loose.length cl, .int .i64 (x.made : Int), .slice ap x.plan.length cp, .bool x.dead] 30)).alloc (.cells #[.int .i64 5, .int .i64 atv, .int .i64 nv, .string nm, .string tn, .string s, .slice pa pn pc] 35)).alloc (.cells (dcs (.slice none 0 0) (.slice none 0 0) 0 (.slice none 0 0) false) 30)).heap[w.heap.size]? = some (.cells #[.slice ao n cs, .slice al x.loose.length cl, .int .i64 (x.made : Int), .slice ap x.plan.length cp, .bool x.dead] 30 (0, 0)) := (Below.heap_alloc _ _ _ (by rw [s2]; omega)).trans ((Below.heap_alloc _ _ _ (by rw [s1]; omega)).trans (heap_alloc_last w _))
  have r2 : (((w.alloc (.cells #[.slice ao n cs, .slice al x.loose.length cl, .int .i64 (x.made : Int), .slice ap x.plan.length cp, .bool x.dead] 30)).alloc (.cells #[.int .i64 5, .int .i64 atv, .int .i64 nv, .string nm, .string tn, .string s, .slice pa pn pc] 35)).alloc (.cells (dcs (.slice none 0 0) (.slice none 0 0) 0 (.slice none 0 0) false) 30)).heap[w.heap.size + 1]? = some (.cells #[.int .i64 5, .int .i64 atv, .int .i64 nv, .string nm, .string tn, .string s, .slice pa pn pc] 35 (0, 0)) := by
    have := heap_alloc_last (w.alloc (.cells #[.slice ao n cs, .slice al x.loose.length cl, .int .i64 (x.made : Int), .slice ap x.plan.length cp, .bool x.dead] 30)) (.cells #[.int .i64 5, .int .i64 atv, .int .i64 nv, .string nm, .string tn, .string s, .slice pa pn pc] 35)
    rw [s1] at this
    exact (Below.heap_alloc _ _ _ (by rw [s2]; omega)).trans this
  have r3 : (((w.alloc (.cells #[.slice ao n cs, .slice al x.loose.length cl, .int .i64 (x.made : Int), .slice ap x.plan.length cp, .bool x.dead] 30)).alloc (.cells #[.int .i64 5, .int .i64 atv, .int .i64 nv, .string nm, .string tn, .string s, .slice pa pn pc] 35)).alloc (.cells (dcs (.slice none 0 0) (.slice none 0 0) 0 (.slice none 0 0) false) 30)).heap[w.heap.size + 2]? = some (.cells (dcs (.slice none 0 0) (.slice none 0 0) 0 (.slice none 0 0) false) 30 (0, 0)) := by
    have := heap_alloc_last ((w.alloc (.cells #[.slice ao n cs, .slice al x.loose.length cl, .int .i64 (x.made : Int), .slice ap x.plan.length cp, .bool x.dead] 30)).alloc (.cells #[.int .i64 5, .int .i64 atv, .int .i64 nv, .string nm, .string tn, .string s, .slice pa pn pc] 35)) (.cells (dcs (.slice none 0 0) (.slice none 0 0) 0 (.slice none 0 0) false) 30)
    rw [s2] at this
    exact this
  have hB : Below w.heap.size w (((w.alloc (.cells #[.slice ao n cs, .slice al x.loose.length cl, .int .i64 (x.made : Int), .slice ap x.plan.length cp, .bool x.dead] 30)).alloc (.cells #[.int .i64 5, .int .i64 atv, .int .i64 nv, .string nm, .string tn, .string s, .slice pa pn pc] 35)).alloc (.cells (dcs (.slice none 0 0) (.slice none 0 0) 0 (.slice none 0 0) false) 30)) := (((Below.refl w.heap.size w).alloc (Nat.le_refl _) _).alloc (by rw [s1]; omega) _).alloc (by rw [s2]; omega) _
  have HB := hide hB
  have R1 := hide r1
  have R2 := hide r2
  have R3 := hide r3
  have S3 := hide s3
  have D1 := hide (h.below hB)
  have H1 := hide (hm.up hB)
  have HT := hide HTl
  have HK : Hid (∀ g, grow K w (((w.alloc (.cells #[.slice ao n cs, .slice al x.loose.length cl, .int .i64 (x.made : Int), .slice ap x.plan.length cp, .bool x.dead] 30)).alloc (.cells #[.int .i64 5, .int .i64 atv, .int .i64 nv, .string nm, .string tn, .string s, .slice pa pn pc] 35)).alloc (.cells (dcs (.slice none 0 0) (.slice none 0 0) 0 (.slice none 0 0) false) 30)) g → g < (((w.alloc (.cells #[.slice ao n cs, .slice al x.loose.length cl, .int .i64 (x.made : Int), .slice ap x.plan.length cp, .bool x.dead] 30)).alloc (.cells #[.int .i64 5, .int .i64 atv, .int .i64 nv, .string nm, .string tn, .string s, .slice pa pn pc] 35)).alloc (.cells (dcs (.slice none 0 0) (.slice none 0 0) 0 (.slice none 0 0) false) 30)).heap.size) := grow_lt hKl hB.size
  have HKn : Hid (∀ g, T g → grow K w (((w.alloc (.cells #[.slice ao n cs, .slice al x.loose.length cl, .int .i64 (x.made : Int), .slice ap x.plan.length cp, .bool x.dead] 30)).alloc (.cells #[.int .i64 5, .int .i64 atv, .int .i64 nv, .string nm, .string tn, .string s, .slice pa pn pc] 35)).alloc (.cells (dcs (.slice none 0 0) (.slice none 0 0) 0 (.slice none 0 0) false) 30)) g) := fun g hg => .inl (hTK g hg)
  have HKk : Hid (∀ g, K g → grow K w (((w.alloc (.cells #[.slice ao n cs, .slice al x.loose.length cl, .int .i64 (x.made : Int), .slice ap x.plan.length cp, .bool x.dead] 30)).alloc (.cells #[.int .i64 5, .int .i64 atv, .int .i64 nv, .string nm, .string tn, .string s, .slice pa pn pc] 35)).alloc (.cells (dcs (.slice none 0 0) (.slice none 0 0) 0 (.slice none 0 0) false) 30)) g) := fun g hg => .inl hg
  have HKo : Hid (∀ g, w.heap.size ≤ g → g < w.heap.size + 3 → grow K w (((w.alloc (.cells #[.slice ao n cs, .slice al x.loose.length cl, .int .i64 (x.made : Int), .slice ap x.plan.length cp, .bool x.dead] 30)).alloc (.cells #[.int .i64 5, .int .i64 atv, .int .i64 nv, .string nm, .string tn, .string s, .slice pa pn pc] 35)).alloc (.cells (dcs (.slice none 0 0) (.slice none 0 0) 0 (.slice none 0 0) false) 30)) g) := fun g h1 h2 => .inr ⟨h1, by rw [s3]; omega⟩
  have HG := hide G
  have HX := hide (And.intro ha1 (And.intro ha2 (And.intro hn1 (And.intro hn2 (And.intro hs1 (And.intro hs2 (And.intro hs3 hnn)))))))
  clear hB r1 r2 r3 s3 h hm hTK hKl G HTl ha1 ha2 hn1 hn2 hs1 hs2 hs3 hnn
  generalize grow K w (((w.alloc (.cells #[.slice ao n cs, .slice al x.loose.length cl, .int .i64 (x.made : Int), .slice ap x.plan.length cp, .bool x.dead] 30)).alloc (.cells #[.int .i64 5, .int .i64 atv, .int .i64 nv, .string nm, .string tn, .string s, .slice pa pn pc] 35)).alloc (.cells (dcs (.slice none 0 0) (.slice none 0 0) 0 (.slice none 0 0) false) 30)) = K2 at *
  go_enter Try.func6, Try.ntmps6
  go_upto_region 1 with ((with_reducible refine at_list ?_); first | refine wpList_boxA rfl _ rfl _ rfl ?_ | refine wpList_allocA ADd rfl rfl ?_)
  try rw [s2]
  try rw [s1]
  clear s1 s2
  generalize (((w.alloc (.cells #[.slice ao n cs, .slice al x.loose.length cl, .int .i64 (x.made : Int), .slice ap x.plan.length cp, .bool x.dead] 30)).alloc (.cells #[.int .i64 5, .int .i64 atv, .int .i64 nv, .string nm, .string tn, .string s, .slice pa pn pc] 35)).alloc (.cells (dcs (.slice none 0 0) (.slice none 0 0) 0 (.slice none 0 0) false) 30)) = W1 at *
  generalize hgb : w.heap.size = b0 at *
  have CC : Hid (∀ W : World, W.heap[b0 + 1]? = some (.cells #[.int .i64 5, .int .i64 atv, .int .i64 nv, .string nm, .string tn, .string s, .slice pa pn pc] 35 (0, 0)) → W.cell? ⟨b0 + 1, 0, none⟩ = some (.int .i64 5) ∧ W.cell? ⟨b0 + 1, 1, none⟩ = some (.int .i64 atv) ∧ W.cell? ⟨b0 + 1, 2, none⟩ = some (.int .i64 nv) ∧ W.cell? ⟨b0 + 1, 3, none⟩ = some (.string nm) ∧ W.cell? ⟨b0 + 1, 4, none⟩ = some (.string tn) ∧ W.cell? ⟨b0 + 1, 5, none⟩ = some (.string s) ∧ W.cell? ⟨b0 + 1, 6, none⟩ = some (.slice pa pn pc)) := fun W e => by
    refine ⟨?_, ?_, ?_, ?_, ?_, ?_, ?_⟩ <;> (rw [cell_of_row _ _ _ _ _ _ e]; rfl)
  obtain ⟨c0, c1, c2, c3, c4, c5, c6⟩ := CC.out _ R2.out
  have HKn3 := hide HKn.out
  have HTb : Hid (∀ g, T g → g < b0) := HT.out
  go_upto_region 24 with (go_at_call 9; refine (sync_all gd x T W1 D1.out HG.out.vd HG.out.plan).mono ?_; rintro e W2 ⟨rfl, d2, f2⟩; have D2 := hide d2; have F2 := hide f2; clear d2 f2)
  clear c0 c1 c2 c3 c4 c5 c6
  have bk : ∀ j, j < 3 → W2.heap[b0 + j]? = W1.heap[b0 + j]? := fun j hj => F2.out.block _ (by have := S3.out; omega) (fun c => by have := HTb.out _ c; omega)
  have RA := hide ((bk 0 (by omega)).trans R1.out)
  have RC := hide ((bk 1 (by omega)).trans R2.out)
  have RB := hide ((bk 2 (by omega)).trans R3.out)
  clear bk
  obtain ⟨c0, c1, c2, c3, c4, c5, c6⟩ := CC.out _ RC.out
  have H2 : Hid (isD (grow K2 W1 W2) W2 (.agg #[.slice ao n cs, .slice al x.loose.length cl, .int .i64 (x.made : Int), .slice ap x.plan.length cp, .bool x.dead]) x) := H1.out.fr (F2.out.mono HKn.out)
  have HK3 : Hid (∀ g, grow K2 W1 W2 g → g < W2.heap.size) := grow_lt HK.out F2.out.size
  have HDc := hide (rsync_any H2.out HG.out.vd HK3.out HG.out.plan HG.out.pz)
  generalize hE0 : snE x = e0 at *
  clear hE0
  generalize hX0 : snS x = x0 at *
  have GX : Hid (Gd x0 (nn + 1)) := by
    show Gd x0 _
    rw [← hX0]
    exact HG.out.sn.more (by omega)
  clear hX0
  go_upto_region 36 with (first | ((with_reducible refine at_list ?_); first | refine wpList_loadA ADd rfl _ rfl b0 rfl _ rfl _ RA.out ?_ | refine wpList_storeA ADd rfl _ _ rfl b0 _ (by rfl) (by simp [Value.oneCell']) rfl rfl _ (by rfl) _ RA3.out ?_) | (go_at_call 19; refine HDc.out.mono ?_; rintro e W3 ⟨v3, rfl, d3, b3⟩; obtain ⟨ao3, n3, cs3, al3, cl3, ap3, cp3, e3⟩ := d3.form; subst e3; have D3 := hide d3; have B3 := hide b3; have RA3 := hide ((b3.block _ (lt_heap RA.out)).trans RA.out); have RB3 := hide ((b3.block _ (lt_heap RB.out)).trans RB.out); clear d3 b3))
  try simp only [Act.put]
  have R4 : Hid ((W3.setRow b0 #[.slice ao3 n3 cs3, .slice al3 x0.loose.length cl3, .int .i64 (x0.made : Int), .slice ap3 x0.plan.length cp3, .bool x0.dead]).heap[b0]? = some (.cells #[.slice ao3 n3 cs3, .slice al3 x0.loose.length cl3, .int .i64 (x0.made : Int), .slice ap3 x0.plan.length cp3, .bool x0.dead] 30 (0, 0))) := setRow_heap _ _ _ _ _ _ RA3.out
  have RB4 : Hid ((W3.setRow b0 #[.slice ao3 n3 cs3, .slice al3 x0.loose.length cl3, .int .i64 (x0.made : Int), .slice ap3 x0.plan.length cp3, .bool x0.dead]).heap[b0 + 2]? = some (.cells (dcs (.slice none 0 0) (.slice none 0 0) 0 (.slice none 0 0) false) 30 (0, 0))) := (setRow_other _ _ _ _ (by omega)).trans RB3.out
  have D4 : Hid (isD (grow K2 W1 W2) (W3.setRow b0 #[.slice ao3 n3 cs3, .slice al3 x0.loose.length cl3, .int .i64 (x0.made : Int), .slice ap3 x0.plan.length cp3, .bool x0.dead]) (.agg #[.slice ao3 n3 cs3, .slice al3 x0.loose.length cl3, .int .i64 (x0.made : Int), .slice ap3 x0.plan.length cp3, .bool x0.dead]) x0) := D3.out.write (Fr.setRow W3 (.inl (HKo.out b0 (Nat.le_refl _) (by omega))) _)
  have P4 : Hid (DK (W3.setRow b0 #[.slice ao3 n3 cs3, .slice al3 x0.loose.length cl3, .int .i64 (x0.made : Int), .slice ap3 x0.plan.length cp3, .bool x0.dead]) gd x0 (grow T W1 W2)) := (D2.out.below B3.out).keep (by simp) (fun g hg => setRow_other _ _ _ _ (fun e => by
    subst e
    rcases hg with hg | ⟨hg, _⟩
    · have := HTb.out _ hg; omega
    · have := S3.out; omega))
  have F4 : Hid (Fr T w (W3.setRow b0 #[.slice ao3 n3 cs3, .slice al3 x0.loose.length cl3, .int .i64 (x0.made : Int), .slice ap3 x0.plan.length cp3, .bool x0.dead])) := by
    have h1 : Fr T w W3 := ((Fr.of_below (by have := HB.out; rw [← hgb] at this; exact this)).trans' F2.out).trans' (Fr.of_below B3.out)
    exact h1.newRow (by omega) _
  clear RA RC RB RA3 RB3 D3 B3 D2 H2
  generalize (W3.setRow b0 #[.slice ao3 n3 cs3, .slice al3 x0.loose.length cl3, .int .i64 (x0.made : Int), .slice ap3 x0.plan.length cp3, .bool x0.dead]) = W4 at *
  refine wp_region_held_drew (S := fun W => W.heap[b0]? = some (.cells #[.slice ao3 n3 cs3, .slice al3 x0.loose.length cl3, .int .i64 (x0.made : Int), .slice ap3 x0.plan.length cp3, .bool x0.dead] 30 (0, 0))) (by kernel_rfl) R4.out (fun hH => ?_)
  refine wpAnyH_take (i := 0) (v := .pointer (some ⟨gd, 0, none⟩)) rfl (by kernel_rfl) (by kernel_rfl) (by kernel_rfl) (fun _ _ _ h => h) (yl_move (by rfl) _ (by rfl) _ (by rfl)) hH ?_
  change wpAnyH _ _ _ _ _ _ _ (Act.put _ (some 160) _) _
  simp only [Act.put, List.setIfInBounds_toArray, List.set_cons_zero, List.set_cons_succ]
  refine wpAnyH_take (i := 1) (v := .agg #[.slice ao3 n3 cs3, .slice al3 x0.loose.length cl3, .int .i64 (x0.made : Int), .slice ap3 x0.plan.length cp3, .bool x0.dead]) rfl (by kernel_rfl) (by kernel_rfl) (by kernel_rfl) (fun _ _ _ h => h) (yl_load (by rfl) _ (by rfl) _ _ (by rfl) (fun W hS => ld_row ADd rfl hS)) hH ?_
  change wpAnyH _ _ _ _ _ _ _ (Act.put _ (some 161) _) _
  simp only [Act.put, List.setIfInBounds_toArray, List.set_cons_zero, List.set_cons_succ]
  refine wpAnyH_take (i := 2) (v := .int .i64 e0) rfl (by kernel_rfl) (by kernel_rfl) (by kernel_rfl) (fun _ _ _ h => h) (yl_move (by rfl) _ (by rfl) _ (by rfl)) hH ?_
  change wpAnyH _ _ _ _ _ _ _ (Act.put _ (some 162) _) _
  simp only [Act.put, List.setIfInBounds_toArray, List.set_cons_zero, List.set_cons_succ]
  refine wpAnyH_take (i := 3) (v := .int .i64 e0) rfl (by kernel_rfl) (by kernel_rfl) (by kernel_rfl) (fun _ _ _ h => h) (yl_move (by rfl) _ (by rfl) _ (by rfl)) hH ?_
  change wpAnyH _ _ _ _ _ _ _ (Act.put _ (some 163) _) _
  simp only [Act.put, List.setIfInBounds_toArray, List.set_cons_zero, List.set_cons_succ]
  refine wpAnyH_take (i := 4) (v := .bool true) rfl (by kernel_rfl) (by kernel_rfl) (by kernel_rfl) (fun _ _ _ h => h) (.inl ⟨by rfl, fun W _ => by go_simp⟩) hH ?_
  change wpAnyH _ _ _ _ _ _ _ (Act.put _ (some 164) _) _
  simp only [Act.put, List.setIfInBounds_toArray, List.set_cons_zero, List.set_cons_succ]
  refine wpAnyH_take (i := 5) (v := .pointer (some ⟨gd, 0, none⟩)) rfl (by kernel_rfl) (by kernel_rfl) (by kernel_rfl) (fun _ _ _ h => h) (.inl ⟨by rfl, fun W _ => by go_simp⟩) hH ?_
  change wpAnyH _ _ _ _ _ _ _ (Act.put _ (some 6) _) _
  simp only [Act.put, List.setIfInBounds_toArray, List.set_cons_zero, List.set_cons_succ]
  have R5 : Hid (W4.drew.heap[b0]? = some (.cells #[.slice ao3 n3 cs3, .slice al3 x0.loose.length cl3, .int .i64 (x0.made : Int), .slice ap3 x0.plan.length cp3, .bool x0.dead] 30 (0, 0))) := R4.out
  have RB5 : Hid (W4.drew.heap[b0 + 2]? = some (.cells (dcs (.slice none 0 0) (.slice none 0 0) 0 (.slice none 0 0) false) 30 (0, 0))) := RB4.out
  have D5 := hide (D4.out.next (Below.refl W4.heap.size W4).drew)
  have P5 := hide (P4.out.below (Below.refl W4.heap.size W4).drew)
  have F5 : Hid (Fr T w W4.drew) := F4.out.trans' (Fr.of_below (Below.refl W4.heap.size W4).drew)
  clear R4 RB4 D4 P4 F4
  generalize W4.drew = W5 at *
  refine wpAnyH_ready (rs := [6]) (by kernel_rfl) (by simp) (AllReadyH.cons rfl (fun K1 hK1 => ?_) AllReadyH.nil)
  refine stepStoreA ADd (by rfl) _ _ (by rfl) (b0 + 2) #[.slice ao3 n3 cs3, .slice al3 x0.loose.length cl3, .int .i64 (x0.made : Int), .slice ap3 x0.plan.length cp3, .bool x0.dead] (by rfl) (by simp [Value.oneCell']) (by rfl) (by rfl) _ (by rfl) _ RB5.out ?_
  refine hK1.out _ _ ((setRow_other _ _ _ _ (by omega)).trans R5.out) (fun hH => ?_)
  clear hK1
  try simp only [Act.put]
  refine wpAnyH_take (i := 7) (v := .bool true) rfl (by kernel_rfl) (by kernel_rfl) (by kernel_rfl) (fun _ _ _ h => h) (.inl ⟨by rfl, fun W _ => by go_simp⟩) hH ?_
  change wpAnyH _ _ _ _ _ _ _ (Act.put _ (some 8) _) _
  simp only [Act.put, List.setIfInBounds_toArray, List.set_cons_zero, List.set_cons_succ]
  refine wpAnyH_done (by kernel_rfl) ?_ _
  go_wp2
  refine bodyPost_ret (res3b ADd Try.results6 _ _ (b0 + 2) 30 _ rfl (by rfl) (setRow_heap _ _ _ _ _ _ RB5.out) _ (by rfl) _ (by rfl)) rfl ?_
  refine ⟨gd, x0, grow T W1 W2, _, rfl, P5.out.keep (by simp) (fun g hg => setRow_other _ _ _ _ (fun e => by
    subst e
    rcases hg with hg | ⟨hg, _⟩
    · have := HTb.out _ hg; omega
    · have := S3.out; omega)), (D5.out.write (Fr.setRow W5 (.inl (HKo.out (b0 + 2) (by omega) (by omega))) _)).mono (fun g hg => ?_), GX.out, F5.out.newRow (by omega) _, fun g hg => ?_⟩
  · rcases hg with (hg | hg) | hg
    · exact .inl (HKn.out g hg)
    · exact .inr hg
    · exact .inl (HKk.out g hg)
  · rcases hg with hg | ⟨hg, _⟩
    · exact .inl hg
    · right
      have := S3.out
      omega
theorem one_6 (h : DK w gd x T) (hm : isD K w mv x) (hTK : ∀ g, T g → K g) (hKl : ∀ g, K g → g < w.heap.size) (G : Gd x nn) (hnn : nn ≤ 9000) (atv nv : Int) (nm tn s : ByteArray) (pa : Option Addr) (pn pc : Nat) (ha1 : -9223372036854775808 ≤ atv) (ha2 : atv < 9223372036854775808) (hn1 : -9223372036854775808 ≤ nv) (hn2 : nv < 9223372036854775808) (hs1 : nm.size ≤ maxLen) (hs2 : tn.size ≤ maxLen) (hs3 : s.size ≤ maxLen) : Calls Try.prog 6 #[.pointer (some ⟨gd, 0, none⟩), mv, .agg #[.int .i64 6, .int .i64 atv, .int .i64 nv, .string nm, .string tn, .string s, .slice pa pn pc]] w (OneP w K T (nn + 1)) := by
  have HTl : ∀ g, T g → g < w.heap.size := h.lt
  obtain ⟨ao, n, cs, al, cl, ap, cp, rfl⟩ := hm.form
  have s1 : (w.alloc (.cells #[.slice ao n cs, .slice al x.loose.length cl, .int .i64 (x.made : Int), .slice ap x.plan.length cp, .bool x.dead] 30)).heap.size = w.heap.size + 1 := by simp
  have s2 : ((w.alloc (.cells #[.slice ao n cs, .slice al x.loose.length cl, .int .i64 (x.made : Int), .slice ap x.plan.length cp, .bool x.dead] 30)).alloc (.cells #[.int .i64 6, .int .i64 atv, .int .i64 nv, .string nm, .string tn, .string s, .slice pa pn pc] 35)).heap.size = w.heap.size + 2 := by simp
  have s3 : (((w.alloc (.cells #[.slice ao n cs, .slice al x.loose.length cl, .int .i64 (x.made : Int), .slice ap x.plan.length cp, .bool x.dead] 30)).alloc (.cells #[.int .i64 6, .int .i64 atv, .int .i64 nv, .string nm, .string tn, .string s, .slice pa pn pc] 35)).alloc (.cells (dcs (.slice none 0 0) (.slice none 0 0) 0 (.slice none 0 0) false) 30)).heap.size = w.heap.size + 3 := by simp
  have r1 : (((w.alloc (.cells #[.slice ao n cs, .slice al x.loose.length cl, .int .i64 (x.made : Int), .slice ap x.plan.length cp, .bool x.dead] 30)).alloc (.cells #[.int .i64 6, .int .i64 atv, .int .i64 nv, .string nm, .string tn, .string s, .slice pa pn pc] 35)).alloc (.cells (dcs (.slice none 0 0) (.slice none 0 0) 0 (.slice none 0 0) false) 30)).heap[w.heap.size]? = some (.cells #[.slice ao n cs, .slice al x.loose.length cl, .int .i64 (x.made : Int), .slice ap x.plan.length cp, .bool x.dead] 30 (0, 0)) := (Below.heap_alloc _ _ _ (by rw [s2]; omega)).trans ((Below.heap_alloc _ _ _ (by rw [s1]; omega)).trans (heap_alloc_last w _))
  have r2 : (((w.alloc (.cells #[.slice ao n cs, .slice al x.loose.length cl, .int .i64 (x.made : Int), .slice ap x.plan.length cp, .bool x.dead] 30)).alloc (.cells #[.int .i64 6, .int .i64 atv, .int .i64 nv, .string nm, .string tn, .string s, .slice pa pn pc] 35)).alloc (.cells (dcs (.slice none 0 0) (.slice none 0 0) 0 (.slice none 0 0) false) 30)).heap[w.heap.size + 1]? = some (.cells #[.int .i64 6, .int .i64 atv, .int .i64 nv, .string nm, .string tn, .string s, .slice pa pn pc] 35 (0, 0)) := by
    have := heap_alloc_last (w.alloc (.cells #[.slice ao n cs, .slice al x.loose.length cl, .int .i64 (x.made : Int), .slice ap x.plan.length cp, .bool x.dead] 30)) (.cells #[.int .i64 6, .int .i64 atv, .int .i64 nv, .string nm, .string tn, .string s, .slice pa pn pc] 35)
    rw [s1] at this
    exact (Below.heap_alloc _ _ _ (by rw [s2]; omega)).trans this
  have r3 : (((w.alloc (.cells #[.slice ao n cs, .slice al x.loose.length cl, .int .i64 (x.made : Int), .slice ap x.plan.length cp, .bool x.dead] 30)).alloc (.cells #[.int .i64 6, .int .i64 atv, .int .i64 nv, .string nm, .string tn, .string s, .slice pa pn pc] 35)).alloc (.cells (dcs (.slice none 0 0) (.slice none 0 0) 0 (.slice none 0 0) false) 30)).heap[w.heap.size + 2]? = some (.cells (dcs (.slice none 0 0) (.slice none 0 0) 0 (.slice none 0 0) false) 30 (0, 0)) := by
    have := heap_alloc_last ((w.alloc (.cells #[.slice ao n cs, .slice al x.loose.length cl, .int .i64 (x.made : Int), .slice ap x.plan.length cp, .bool x.dead] 30)).alloc (.cells #[.int .i64 6, .int .i64 atv, .int .i64 nv, .string nm, .string tn, .string s, .slice pa pn pc] 35)) (.cells (dcs (.slice none 0 0) (.slice none 0 0) 0 (.slice none 0 0) false) 30)
    rw [s2] at this
    exact this
  have hB : Below w.heap.size w (((w.alloc (.cells #[.slice ao n cs, .slice al x.loose.length cl, .int .i64 (x.made : Int), .slice ap x.plan.length cp, .bool x.dead] 30)).alloc (.cells #[.int .i64 6, .int .i64 atv, .int .i64 nv, .string nm, .string tn, .string s, .slice pa pn pc] 35)).alloc (.cells (dcs (.slice none 0 0) (.slice none 0 0) 0 (.slice none 0 0) false) 30)) := (((Below.refl w.heap.size w).alloc (Nat.le_refl _) _).alloc (by rw [s1]; omega) _).alloc (by rw [s2]; omega) _
  have HB := hide hB
  have R1 := hide r1
  have R2 := hide r2
  have R3 := hide r3
  have S3 := hide s3
  have D1 := hide (h.below hB)
  have H1 := hide (hm.up hB)
  have HT := hide HTl
  have HK : Hid (∀ g, grow K w (((w.alloc (.cells #[.slice ao n cs, .slice al x.loose.length cl, .int .i64 (x.made : Int), .slice ap x.plan.length cp, .bool x.dead] 30)).alloc (.cells #[.int .i64 6, .int .i64 atv, .int .i64 nv, .string nm, .string tn, .string s, .slice pa pn pc] 35)).alloc (.cells (dcs (.slice none 0 0) (.slice none 0 0) 0 (.slice none 0 0) false) 30)) g → g < (((w.alloc (.cells #[.slice ao n cs, .slice al x.loose.length cl, .int .i64 (x.made : Int), .slice ap x.plan.length cp, .bool x.dead] 30)).alloc (.cells #[.int .i64 6, .int .i64 atv, .int .i64 nv, .string nm, .string tn, .string s, .slice pa pn pc] 35)).alloc (.cells (dcs (.slice none 0 0) (.slice none 0 0) 0 (.slice none 0 0) false) 30)).heap.size) := grow_lt hKl hB.size
  have HKn : Hid (∀ g, T g → grow K w (((w.alloc (.cells #[.slice ao n cs, .slice al x.loose.length cl, .int .i64 (x.made : Int), .slice ap x.plan.length cp, .bool x.dead] 30)).alloc (.cells #[.int .i64 6, .int .i64 atv, .int .i64 nv, .string nm, .string tn, .string s, .slice pa pn pc] 35)).alloc (.cells (dcs (.slice none 0 0) (.slice none 0 0) 0 (.slice none 0 0) false) 30)) g) := fun g hg => .inl (hTK g hg)
  have HKk : Hid (∀ g, K g → grow K w (((w.alloc (.cells #[.slice ao n cs, .slice al x.loose.length cl, .int .i64 (x.made : Int), .slice ap x.plan.length cp, .bool x.dead] 30)).alloc (.cells #[.int .i64 6, .int .i64 atv, .int .i64 nv, .string nm, .string tn, .string s, .slice pa pn pc] 35)).alloc (.cells (dcs (.slice none 0 0) (.slice none 0 0) 0 (.slice none 0 0) false) 30)) g) := fun g hg => .inl hg
  have HKo : Hid (∀ g, w.heap.size ≤ g → g < w.heap.size + 3 → grow K w (((w.alloc (.cells #[.slice ao n cs, .slice al x.loose.length cl, .int .i64 (x.made : Int), .slice ap x.plan.length cp, .bool x.dead] 30)).alloc (.cells #[.int .i64 6, .int .i64 atv, .int .i64 nv, .string nm, .string tn, .string s, .slice pa pn pc] 35)).alloc (.cells (dcs (.slice none 0 0) (.slice none 0 0) 0 (.slice none 0 0) false) 30)) g) := fun g h1 h2 => .inr ⟨h1, by rw [s3]; omega⟩
  have HG := hide G
  have HX := hide (And.intro ha1 (And.intro ha2 (And.intro hn1 (And.intro hn2 (And.intro hs1 (And.intro hs2 (And.intro hs3 hnn)))))))
  clear hB r1 r2 r3 s3 h hm hTK hKl G HTl ha1 ha2 hn1 hn2 hs1 hs2 hs3 hnn
  generalize grow K w (((w.alloc (.cells #[.slice ao n cs, .slice al x.loose.length cl, .int .i64 (x.made : Int), .slice ap x.plan.length cp, .bool x.dead] 30)).alloc (.cells #[.int .i64 6, .int .i64 atv, .int .i64 nv, .string nm, .string tn, .string s, .slice pa pn pc] 35)).alloc (.cells (dcs (.slice none 0 0) (.slice none 0 0) 0 (.slice none 0 0) false) 30)) = K2 at *
  go_enter Try.func6, Try.ntmps6
  go_upto_region 1 with ((with_reducible refine at_list ?_); first | refine wpList_boxA rfl _ rfl _ rfl ?_ | refine wpList_allocA ADd rfl rfl ?_)
  try rw [s2]
  try rw [s1]
  clear s1 s2
  generalize (((w.alloc (.cells #[.slice ao n cs, .slice al x.loose.length cl, .int .i64 (x.made : Int), .slice ap x.plan.length cp, .bool x.dead] 30)).alloc (.cells #[.int .i64 6, .int .i64 atv, .int .i64 nv, .string nm, .string tn, .string s, .slice pa pn pc] 35)).alloc (.cells (dcs (.slice none 0 0) (.slice none 0 0) 0 (.slice none 0 0) false) 30)) = W1 at *
  generalize hgb : w.heap.size = b0 at *
  have CC : Hid (∀ W : World, W.heap[b0 + 1]? = some (.cells #[.int .i64 6, .int .i64 atv, .int .i64 nv, .string nm, .string tn, .string s, .slice pa pn pc] 35 (0, 0)) → W.cell? ⟨b0 + 1, 0, none⟩ = some (.int .i64 6) ∧ W.cell? ⟨b0 + 1, 1, none⟩ = some (.int .i64 atv) ∧ W.cell? ⟨b0 + 1, 2, none⟩ = some (.int .i64 nv) ∧ W.cell? ⟨b0 + 1, 3, none⟩ = some (.string nm) ∧ W.cell? ⟨b0 + 1, 4, none⟩ = some (.string tn) ∧ W.cell? ⟨b0 + 1, 5, none⟩ = some (.string s) ∧ W.cell? ⟨b0 + 1, 6, none⟩ = some (.slice pa pn pc)) := fun W e => by
    refine ⟨?_, ?_, ?_, ?_, ?_, ?_, ?_⟩ <;> (rw [cell_of_row _ _ _ _ _ _ e]; rfl)
  obtain ⟨c0, c1, c2, c3, c4, c5, c6⟩ := CC.out _ R2.out
  have HKn3 := hide HKn.out
  have HTb : Hid (∀ g, T g → g < b0) := HT.out
  go_upto_region 27 with (go_at_call 11; refine (crash_any gd x T atv nv W1 D1.out HG.out.vd HX.out.1 HX.out.2.1).mono ?_; rintro e W2 ⟨⟨r, rfl⟩, d2, f2⟩; have D2 := hide d2; have F2 := hide f2; clear d2 f2)
  clear c0 c1 c2 c3 c4 c5 c6
  have bk : ∀ j, j < 3 → W2.heap[b0 + j]? = W1.heap[b0 + j]? := fun j hj => F2.out.block _ (by have := S3.out; omega) (fun c => by have := HTb.out _ c; omega)
  have RA := hide ((bk 0 (by omega)).trans R1.out)
  have RC := hide ((bk 1 (by omega)).trans R2.out)
  have RB := hide ((bk 2 (by omega)).trans R3.out)
  clear bk
  obtain ⟨c0, c1, c2, c3, c4, c5, c6⟩ := CC.out _ RC.out
  have H2 : Hid (isD (grow K2 W1 W2) W2 (.agg #[.slice ao n cs, .slice al x.loose.length cl, .int .i64 (x.made : Int), .slice ap x.plan.length cp, .bool x.dead]) x) := H1.out.fr (F2.out.mono HKn.out)
  have HK3 : Hid (∀ g, grow K2 W1 W2 g → g < W2.heap.size) := grow_lt HK.out F2.out.size
  have HDc := hide (rcrash_any (grow K2 W1 W2) x _ atv nv W2 H2.out HG.out.vd HK3.out HX.out.1 HX.out.2.1)
  generalize hX0 : crC x atv nv = x0 at *
  have GX : Hid (Gd x0 (nn + 1)) := by
    show Gd x0 _
    rw [← hX0]
    exact (HG.out.cr atv nv).more (by omega)
  clear hX0
  go_upto_region 36 with (first | ((with_reducible refine at_list ?_); first | refine wpList_loadA ADd rfl _ rfl b0 rfl _ rfl _ RA.out ?_ | refine wpList_storeA ADd rfl _ _ rfl b0 _ (by rfl) (by simp [Value.oneCell']) rfl rfl _ (by rfl) _ RA3.out ?_) | (go_at_call 20; refine HDc.out.mono ?_; rintro e W3 ⟨v3, rfl, d3, b3⟩; obtain ⟨ao3, n3, cs3, al3, cl3, ap3, cp3, e3⟩ := d3.form; subst e3; have D3 := hide d3; have B3 := hide b3; have RA3 := hide ((b3.block _ (lt_heap RA.out)).trans RA.out); have RB3 := hide ((b3.block _ (lt_heap RB.out)).trans RB.out); clear d3 b3))
  try simp only [Act.put]
  have R4 : Hid ((W3.setRow b0 #[.slice ao3 n3 cs3, .slice al3 x0.loose.length cl3, .int .i64 (x0.made : Int), .slice ap3 x0.plan.length cp3, .bool x0.dead]).heap[b0]? = some (.cells #[.slice ao3 n3 cs3, .slice al3 x0.loose.length cl3, .int .i64 (x0.made : Int), .slice ap3 x0.plan.length cp3, .bool x0.dead] 30 (0, 0))) := setRow_heap _ _ _ _ _ _ RA3.out
  have RB4 : Hid ((W3.setRow b0 #[.slice ao3 n3 cs3, .slice al3 x0.loose.length cl3, .int .i64 (x0.made : Int), .slice ap3 x0.plan.length cp3, .bool x0.dead]).heap[b0 + 2]? = some (.cells (dcs (.slice none 0 0) (.slice none 0 0) 0 (.slice none 0 0) false) 30 (0, 0))) := (setRow_other _ _ _ _ (by omega)).trans RB3.out
  have D4 : Hid (isD (grow K2 W1 W2) (W3.setRow b0 #[.slice ao3 n3 cs3, .slice al3 x0.loose.length cl3, .int .i64 (x0.made : Int), .slice ap3 x0.plan.length cp3, .bool x0.dead]) (.agg #[.slice ao3 n3 cs3, .slice al3 x0.loose.length cl3, .int .i64 (x0.made : Int), .slice ap3 x0.plan.length cp3, .bool x0.dead]) x0) := D3.out.write (Fr.setRow W3 (.inl (HKo.out b0 (Nat.le_refl _) (by omega))) _)
  have P4 : Hid (DK (W3.setRow b0 #[.slice ao3 n3 cs3, .slice al3 x0.loose.length cl3, .int .i64 (x0.made : Int), .slice ap3 x0.plan.length cp3, .bool x0.dead]) gd x0 (grow T W1 W2)) := (D2.out.below B3.out).keep (by simp) (fun g hg => setRow_other _ _ _ _ (fun e => by
    subst e
    rcases hg with hg | ⟨hg, _⟩
    · have := HTb.out _ hg; omega
    · have := S3.out; omega))
  have F4 : Hid (Fr T w (W3.setRow b0 #[.slice ao3 n3 cs3, .slice al3 x0.loose.length cl3, .int .i64 (x0.made : Int), .slice ap3 x0.plan.length cp3, .bool x0.dead])) := by
    have h1 : Fr T w W3 := ((Fr.of_below (by have := HB.out; rw [← hgb] at this; exact this)).trans' F2.out).trans' (Fr.of_below B3.out)
    exact h1.newRow (by omega) _
  clear RA RC RB RA3 RB3 D3 B3 D2 H2
  generalize (W3.setRow b0 #[.slice ao3 n3 cs3, .slice al3 x0.loose.length cl3, .int .i64 (x0.made : Int), .slice ap3 x0.plan.length cp3, .bool x0.dead]) = W4 at *
  refine wp_region_held_drew (S := fun W => W.heap[b0]? = some (.cells #[.slice ao3 n3 cs3, .slice al3 x0.loose.length cl3, .int .i64 (x0.made : Int), .slice ap3 x0.plan.length cp3, .bool x0.dead] 30 (0, 0))) (by kernel_rfl) R4.out (fun hH => ?_)
  refine wpAnyH_take (i := 0) (v := .pointer (some ⟨gd, 0, none⟩)) rfl (by kernel_rfl) (by kernel_rfl) (by kernel_rfl) (fun _ _ _ h => h) (yl_move (by rfl) _ (by rfl) _ (by rfl)) hH ?_
  change wpAnyH _ _ _ _ _ _ _ (Act.put _ (some 160) _) _
  simp only [Act.put, List.setIfInBounds_toArray, List.set_cons_zero, List.set_cons_succ]
  refine wpAnyH_take (i := 1) (v := .agg #[.slice ao3 n3 cs3, .slice al3 x0.loose.length cl3, .int .i64 (x0.made : Int), .slice ap3 x0.plan.length cp3, .bool x0.dead]) rfl (by kernel_rfl) (by kernel_rfl) (by kernel_rfl) (fun _ _ _ h => h) (yl_load (by rfl) _ (by rfl) _ _ (by rfl) (fun W hS => ld_row ADd rfl hS)) hH ?_
  change wpAnyH _ _ _ _ _ _ _ (Act.put _ (some 161) _) _
  simp only [Act.put, List.setIfInBounds_toArray, List.set_cons_zero, List.set_cons_succ]
  refine wpAnyH_take (i := 2) (v := .int .i64 0) rfl (by kernel_rfl) (by kernel_rfl) (by kernel_rfl) (fun _ _ _ h => h) (yl_move (by rfl) _ (by rfl) _ (by rfl)) hH ?_
  change wpAnyH _ _ _ _ _ _ _ (Act.put _ (some 162) _) _
  simp only [Act.put, List.setIfInBounds_toArray, List.set_cons_zero, List.set_cons_succ]
  refine wpAnyH_take (i := 3) (v := .int .i64 0) rfl (by kernel_rfl) (by kernel_rfl) (by kernel_rfl) (fun _ _ _ h => h) (yl_move (by rfl) _ (by rfl) _ (by rfl)) hH ?_
  change wpAnyH _ _ _ _ _ _ _ (Act.put _ (some 163) _) _
  simp only [Act.put, List.setIfInBounds_toArray, List.set_cons_zero, List.set_cons_succ]
  refine wpAnyH_take (i := 4) (v := .bool true) rfl (by kernel_rfl) (by kernel_rfl) (by kernel_rfl) (fun _ _ _ h => h) (.inl ⟨by rfl, fun W _ => by go_simp⟩) hH ?_
  change wpAnyH _ _ _ _ _ _ _ (Act.put _ (some 164) _) _
  simp only [Act.put, List.setIfInBounds_toArray, List.set_cons_zero, List.set_cons_succ]
  refine wpAnyH_take (i := 5) (v := .pointer (some ⟨gd, 0, none⟩)) rfl (by kernel_rfl) (by kernel_rfl) (by kernel_rfl) (fun _ _ _ h => h) (.inl ⟨by rfl, fun W _ => by go_simp⟩) hH ?_
  change wpAnyH _ _ _ _ _ _ _ (Act.put _ (some 6) _) _
  simp only [Act.put, List.setIfInBounds_toArray, List.set_cons_zero, List.set_cons_succ]
  have R5 : Hid (W4.drew.heap[b0]? = some (.cells #[.slice ao3 n3 cs3, .slice al3 x0.loose.length cl3, .int .i64 (x0.made : Int), .slice ap3 x0.plan.length cp3, .bool x0.dead] 30 (0, 0))) := R4.out
  have RB5 : Hid (W4.drew.heap[b0 + 2]? = some (.cells (dcs (.slice none 0 0) (.slice none 0 0) 0 (.slice none 0 0) false) 30 (0, 0))) := RB4.out
  have D5 := hide (D4.out.next (Below.refl W4.heap.size W4).drew)
  have P5 := hide (P4.out.below (Below.refl W4.heap.size W4).drew)
  have F5 : Hid (Fr T w W4.drew) := F4.out.trans' (Fr.of_below (Below.refl W4.heap.size W4).drew)
  clear R4 RB4 D4 P4 F4
  generalize W4.drew = W5 at *
  refine wpAnyH_ready (rs := [6]) (by kernel_rfl) (by simp) (AllReadyH.cons rfl (fun K1 hK1 => ?_) AllReadyH.nil)
  refine stepStoreA ADd (by rfl) _ _ (by rfl) (b0 + 2) #[.slice ao3 n3 cs3, .slice al3 x0.loose.length cl3, .int .i64 (x0.made : Int), .slice ap3 x0.plan.length cp3, .bool x0.dead] (by rfl) (by simp [Value.oneCell']) (by rfl) (by rfl) _ (by rfl) _ RB5.out ?_
  refine hK1.out _ _ ((setRow_other _ _ _ _ (by omega)).trans R5.out) (fun hH => ?_)
  clear hK1
  try simp only [Act.put]
  refine wpAnyH_take (i := 7) (v := .bool true) rfl (by kernel_rfl) (by kernel_rfl) (by kernel_rfl) (fun _ _ _ h => h) (.inl ⟨by rfl, fun W _ => by go_simp⟩) hH ?_
  change wpAnyH _ _ _ _ _ _ _ (Act.put _ (some 8) _) _
  simp only [Act.put, List.setIfInBounds_toArray, List.set_cons_zero, List.set_cons_succ]
  refine wpAnyH_done (by kernel_rfl) ?_ _
  go_wp2
  refine bodyPost_ret (res3b ADd Try.results6 _ _ (b0 + 2) 30 _ rfl (by rfl) (setRow_heap _ _ _ _ _ _ RB5.out) _ (by rfl) _ (by rfl)) rfl ?_
  refine ⟨gd, x0, grow T W1 W2, _, rfl, P5.out.keep (by simp) (fun g hg => setRow_other _ _ _ _ (fun e => by
    subst e
    rcases hg with hg | ⟨hg, _⟩
    · have := HTb.out _ hg; omega
    · have := S3.out; omega)), (D5.out.write (Fr.setRow W5 (.inl (HKo.out (b0 + 2) (by omega) (by omega))) _)).mono (fun g hg => ?_), GX.out, F5.out.newRow (by omega) _, fun g hg => ?_⟩
  · rcases hg with (hg | hg) | hg
    · exact .inl (HKn.out g hg)
    · exact .inr hg
    · exact .inl (HKk.out g hg)
  · rcases hg with hg | ⟨hg, _⟩
    · exact .inl hg
    · right
      have := S3.out
      omega
end
end Go.Proofs.Ythnfpdmhjennlaa
