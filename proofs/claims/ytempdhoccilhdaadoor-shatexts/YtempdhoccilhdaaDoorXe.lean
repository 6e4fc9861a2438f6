/- The law ShaTexts: its walk. -/
import Derived.Test.YtempdhoccilhdaaDoorXd
namespace Go.Proofs.YtempdhoccilhdaaDoor
open Go.RowKit
open Go.Deep
theorem vd_hexb (n : Nat) (h : n < 16) : vd (hexb n).toNat = n := by
  have : ∀ n : Fin 16, vd (hexb n.val).toNat = n.val := by decide
  exact this ⟨n, h⟩
theorem isD_hexb (n : Nat) (h : n < 16) : isD (hexb n) = true := by
  unfold isD
  rw [vd_hexb n h]
  simp
  omega
theorem unhex_hex (l : List UInt8) : unhexL (hexL l) = l := by
  induction l with
  | nil => rfl
  | cons b r ih =>
    have hb := b.toNat_lt
    simp only [hexL, unhexL]
    rw [vd_hexb _ (by omega), vd_hexb _ (by omega), ih, show b.toNat / 16 * 16 + b.toNat % 16 = b.toNat by omega, UInt8.ofNat_toNat]
theorem hex_isD (l : List UInt8) : (hexL l).all isD = true := by
  induction l with
  | nil => rfl
  | cons b r ih =>
    have hb := b.toNat_lt
    simp only [hexL, List.all_cons]
    rw [isD_hexb _ (by omega), isD_hexb _ (by omega), ih]
    rfl
theorem sparse_text (h : List UInt8) (hl : h.length = 32) (w : World) : Calls Tryd.prog 31 #[.string ⟨(hexL h.reverse).toArray⟩] w fun e w' => e = .returned (.tuple #[.agg (hc h), .int .i64 0, .int .i64 0]) ∧ Below w.heap.size w w' := by
  have hz : (⟨(hexL h.reverse).toArray⟩ : ByteArray).size = 64 := by
    show (hexL h.reverse).toArray.size = 64
    rw [List.size_toArray, hexL_len, List.length_reverse, hl]
  have := sparse_good ⟨(hexL h.reverse).toArray⟩ hz (by simpa using hex_isD h.reverse) w
  have e : (unhexL (⟨(hexL h.reverse).toArray⟩ : ByteArray).data.toList).reverse = h := by
    show (unhexL (hexL h.reverse)).reverse = h
    rw [unhex_hex, List.reverse_reverse]
  rw [e] at this
  exact this
def ldh (x : Value) : Sem Value := Instr.loadAt 25 x
theorem ldh_eq (x : Value) : Instr.loadAt 25 x = ldh x := rfl
/-- What is known of the world in ShaTexts. -/
structure Jx (w W : World) (h g : List UInt8) : Prop where
  a : W.heap[w.heap.size]? = some (.cells (hc h) 25 (0, 0))
  b : W.heap[w.heap.size + 1]? = some (.cells (hc g) 25 (0, 0))
  below : Below w.heap.size w W
  kg : Kg W
theorem Jx.next {w W W' : World} {h g : List UInt8} (j : Jx w W h g) (b : Below W.heap.size W W') : Jx w W' h g :=
  ⟨(b.block _ (lt_heap j.a)).trans j.a, (b.block _ (lt_heap j.b)).trans j.b, j.below.trans (b.mono j.below.size), j.kg.next b⟩
theorem Jx.alloc {w W : World} {h g : List UInt8} (j : Jx w W h g) (o : Obj) : Jx w (W.alloc o) h g := j.next ((Below.refl _ _).alloc (Nat.le_refl _) o)
attribute [local go_sem ↓] ldh_eq
section
set_option maxRecDepth 10000
set_option maxHeartbeats 4000000
theorem shaTexts_walk (h : List UInt8) (hl : h.length = 32) (g : List UInt8) (gl : g.length = 32) (s : ByteArray) (hs : s.size ≤ 281474976710656) (w : World) (hK : Kg w) : Calls Tryd.prog 6 #[.agg (hc h), .agg (hc g), .string s] w fun e w' => e = .returned (.bool true) ∧ Below w.heap.size w w' := by
  have HA := hide fun W hW => awake_any W hW
  have H26 := hide fun W => stext_any h hl W
  have H27 := hide fun W => rtext_any h hl W
  have H28 := hide fun W => scompare_any h g hl gl W
  have H29 := hide fun W => rcompare_any h g hl gl W
  have H30 := hide fun W => szero_any h hl W
  have H31 := hide fun W => sparse_text h hl W
  have hez := hide fun W => eqb2 h zeros hl zeros_len W
  have he := hide fun W => eqb 25 32 Tryd.underlying25 h hl W
  have J : Hid (Jx w ((w.alloc (.cells (hc h) 25)).alloc (.cells (hc g) 25)).drew h g) :=
    ⟨(blk2 w _ _).1, (blk2 w _ _).2, (two_below w _ _).drew, hK.next (two_below w (.cells (hc h) 25) (.cells (hc g) 25)).drew⟩
  have HK := hide hK
  clear hK
  generalize (h == zeros) = z at *
  generalize (⟨(hexL h.reverse).toArray⟩ : ByteArray) = T at *
  generalize cmpK (hb h) (hb g) 32 = cm at *
  go_enter Tryd.func6, Tryd.ntmps6
  go_upto_region 1 with (first | refine wpList_boxA rfl _ rfl (hc h) rfl ?_ | refine wpList_boxA rfl _ rfl (hc g) rfl ?_)
  obtain ⟨I, hne, F, i0, h0, hJ, hcl⟩ : ∃ (I : Type) (_ : Nonempty I) (F : I → World) (i0 : I), ((w.alloc (.cells (hc h) 25)).alloc (.cells (hc g) 25)).drew = F i0 ∧ Hid (∀ i, Jx w (F i) h g) ∧ Hid (∀ i W', Below (F i).heap.size (F i) W' → ∃ j, W' = F j) :=
    ⟨{W : World // Jx w W h g}, ⟨⟨_, J.out⟩⟩, Subtype.val, ⟨_, J.out⟩, rfl, fun i => i.2, fun i W' b => ⟨⟨W', i.2.next b⟩, rfl⟩⟩
  have l1 : ∀ i, (ldh (.pointer (some ⟨w.heap.size, 0, none⟩))).run Tryd.prog (F i) = .ok (.agg (hc h)) (F i) := fun i => ld_row A25 (by rw [hc_size, hl]) (hJ.out i).a
  have l2 : ∀ i, (ldh (.pointer (some ⟨w.heap.size + 1, 0, none⟩))).run Tryd.prog (F i) = .ok (.agg (hc g)) (F i) := fun i => ld_row A25 (by rw [hc_size, gl]) (hJ.out i).b
  clear J
  refine wp_region_class_lit (by kernel_rfl) (by kernel_rfl) i0 h0 ?_
  repeat (first | (go_big_quiet_want; refine quiet_eql 25 _ _ _ (by rfl) (hc h) (hc zeros) (by rfl) (by rfl) eqg25 z hez.out ?_; go_big_quiet_on; simp only [Act.put, List.setIfInBounds_toArray, List.set_cons_succ, List.set_cons_zero]) | go_big_quiet_step (first | (go_at_call 9; exact class_of hcl.out (HA.out _ (hJ.out _).kg)) | (go_at_call 26; exact class_of hcl.out (H26.out _)) | (go_at_call 27; exact class_of hcl.out (H27.out _)) | (go_at_call 28; exact class_of hcl.out (H28.out _)) | (go_at_call 29; exact class_of hcl.out (H29.out _)) | (go_at_call 30; exact class_of hcl.out (H30.out _))))
  refine wpQuiet_nil ?_
  rintro _ ⟨iq, rfl⟩
  have J1 := hide (hJ.out iq)
  clear hJ hcl l1 l2 h0 hne
  generalize F iq = W0 at *
  go_upto_region 6 with (first | refine wpList_loadA A25 rfl _ rfl _ rfl (hc h) (by rw [hc_size, hl]) 25 J1.out.a ?_ | (go_at_call 26; refine (H26.out _).mono ?_; rintro e w1 ⟨rfl, b1⟩; have J2 := hide (J1.out.next b1); clear b1) | (go_at_call 31; refine (H31.out _).mono ?_; rintro e w2 ⟨rfl, b2⟩; have J3 := hide ((J2.out.next b2).alloc (.cells (hc h) 25)); clear b2) | refine wpList_allocA A25 rfl rfl ?_ | refine wpList_store_newA A25 rfl _ _ rfl _ rfl (hc h) (by rw [hc_size, hl]) (hc_one _) rfl rfl ?_ | refine wpList_loadA A25 rfl _ rfl _ rfl (hc h) (by rw [hc_size, hl]) 25 (heap_alloc_last w2 _) ?_ | refine wpList_loadA A25 rfl _ rfl _ rfl (hc h) (by rw [hc_size, hl]) 25 J3.out.a ?_ | refine wpList_neq 25 _ _ _ rfl (hc h) (hc h) rfl rfl rfl eqg25 true he.out ?_)
  have B3 := hide J3.out.below
  clear J1 J2 J3 H26 H27 H28 H29 H30 H31 hez he
  generalize w2.alloc (.cells (hc h) 25) = W2 at *
  have H32 := hide fun W => rparse_any s hs W
  by_cases hcs : min (good s.data.toList) 64 < 64 ∨ 64 < s.size
  · have H31 := hide fun W => sparse_bad s hs hcs W
    have e : parseS s = (zeros, ((min (good s.data.toList) 64 : Nat) : Int)) := if_pos hcs
    rw [e] at H32
    have ez := hide fun W => eqb 25 32 Tryd.underlying25 zeros zeros_len W
    clear e hcs
    generalize min (good s.data.toList) 64 = n at *
    go_wp2_with (first | (go_at_call 31; refine (H31.out _).mono ?_; rintro e w3 ⟨rfl, b3⟩; have B4 := hide ((below_next B3.out b3).alloc (below_next B3.out b3).size (.cells (hc zeros) 25)); clear b3) | refine wpList_allocA A25 rfl rfl ?_ | refine wpList_store_newA A25 rfl _ _ rfl _ rfl (hc zeros) A25.zsize (hc_one _) rfl rfl ?_ | (go_at_call 32; refine (H32.out _).mono ?_; rintro e w4 ⟨rfl, b4⟩; have N4 := hide ((Below.heap_alloc w4 (.cells (hc zeros) 24) _ (lt_heap ((b4.block _ (by simp)).trans (heap_alloc_last w3 (.cells (hc zeros) 25))))).trans ((b4.block _ (by simp)).trans (heap_alloc_last w3 (.cells (hc zeros) 25)))); have B5 := hide ((below_next B4.out b4).alloc (below_next B4.out b4).size (.cells (hc zeros) 24)); clear b4) | refine wpList_allocA A24 rfl rfl ?_ | refine wpList_store_newA A24 rfl _ _ rfl _ rfl (hc zeros) A24.zsize (hc_one _) rfl rfl ?_ | refine wpList_loadA A25 rfl _ rfl _ rfl (hc zeros) A25.zsize 25 N4.out ?_ | refine wpList_buildA A25 rfl rfl ?_ | refine wpList_eql 25 _ _ _ rfl (hc zeros) (hc zeros) rfl rfl rfl eqg25 true ez.out ?_)
    go_ret
    exact ⟨rfl, B5.out⟩
  · have hgl := good_le s.data.toList
    have hsz : s.data.toList.length = s.size := by simp
    have hul : (unhexL s.data.toList).reverse.length = 32 := by
      rw [List.length_reverse, unhexL_len]
      omega
    have H31 := hide fun W => sparse_good s (by omega) (good_all _ (by omega)) W
    have e : parseS s = ((unhexL s.data.toList).reverse, -1) := if_neg hcs
    rw [e] at H32
    clear e hcs hgl hsz
    generalize (unhexL s.data.toList).reverse = L at *
    have el := hide fun W => eqb 25 32 Tryd.underlying25 L hul W
    go_wp2_with (first | (go_at_call 31; refine (H31.out _).mono ?_; rintro e w3 ⟨rfl, b3⟩; have B4 := hide ((below_next B3.out b3).alloc (below_next B3.out b3).size (.cells (hc L) 25)); clear b3) | refine wpList_allocA A25 rfl rfl ?_ | refine wpList_store_newA A25 rfl _ _ rfl _ rfl (hc L) (by rw [hc_size, hul]) (hc_one _) rfl rfl ?_ | (go_at_call 32; refine (H32.out _).mono ?_; rintro e w4 ⟨rfl, b4⟩; have N4 := hide ((Below.heap_alloc w4 (.cells (hc L) 24) _ (lt_heap ((b4.block _ (by simp)).trans (heap_alloc_last w3 (.cells (hc L) 25))))).trans ((b4.block _ (by simp)).trans (heap_alloc_last w3 (.cells (hc L) 25)))); have B5 := hide ((below_next B4.out b4).alloc (below_next B4.out b4).size (.cells (hc L) 24)); clear b4) | refine wpList_allocA A24 rfl rfl ?_ | refine wpList_store_newA A24 rfl _ _ rfl _ rfl (hc L) (by rw [hc_size, hul]) (hc_one _) rfl rfl ?_ | refine wpList_loadA A25 rfl _ rfl _ rfl (hc L) (by rw [hc_size, hul]) 25 N4.out ?_ | refine wpList_loadA A24 rfl _ rfl _ rfl (hc L) (by rw [hc_size, hul]) 24 (heap_alloc_last w4 _) ?_ | refine wpList_eql 25 _ _ _ rfl (hc L) (hc L) rfl rfl rfl eqg25 true el.out ?_)
    go_ret
    exact ⟨rfl, B5.out⟩
end
end Go.Proofs.YtempdhoccilhdaaDoor
