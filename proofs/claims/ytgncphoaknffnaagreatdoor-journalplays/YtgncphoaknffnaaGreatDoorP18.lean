/- Journals: the bytes of a file with given records; what is done to write a file anew. Journals: writing a file anew. Journals: Renew. -/
import Derived.Test.YtgncphoaknffnaaGreatDoorP17
namespace Go.Proofs.YtgncphoaknffnaaGreatDoor
open Go.RowKit
open Go.Deep
open Go.Lib
set_option linter.unusedVariables false
theorem file_next (ep : Nat) (L : List ByteArray) (k : Nat) (s : ByteArray) (h : L[k]? = some s) : fileL ep (dl (L.take (k + 1))) = fileL ep (dl (L.take k)) ++ recL ep k s.data.toList := by
  have hk := (List.getElem?_eq_some_iff.1 h).1
  have he := (List.getElem?_eq_some_iff.1 h).2
  rw [List.take_succ_eq_append_getElem hk, he, dl_app]
  show fileL ep (dl (L.take k) ++ [s.data.toList]) = _
  rw [fileL_snoc, dl_len, List.length_take, Nat.min_eq_left (by omega)]
section
set_option maxRecDepth 10000
set_option maxHeartbeats 2000000
theorem fileBytes_any (ep : Nat) (he : U64 ep) (L : List ByteArray) (v : Value) (w : World) (hv : LX KS w v L) (hb : flen (dl L) ≤ 1099511627776) (hz : ∀ s ∈ L, s.size ≤ 140737488351232) (hK : Kg w) : Calls Tryz.prog 46 #[.int .u64 ep, v] w fun e w' => Below w.heap.size w w' ∧ (((∀ s ∈ L, s.size ≤ 65536) ∧ e = .returned (.tuple #[.string (txt (fileL ep (dl L))), .int .i64 0])) ∨ ((∃ s ∈ L, 65536 < s.size) ∧ e = .returned (.tuple #[.string ⟨#[]⟩, .int .i64 121]))) := by
  have HV := hide hv
  obtain ⟨ao, cc, rfl⟩ := hv.form
  have HB := hide hb
  have HZ := hide hz
  have HH := hide fun W (b : Below w.heap.size w W) => headJ_any ep he W (hK.next b)
  have h16 : 16 * L.length ≤ flen (dl L) := by
    clear hv HV hb HB HZ hz
    unfold flen
    induction L with
    | nil => simp
    | cons a r ih =>
      simp only [dl, List.map_cons, List.sum_cons, List.length_cons] at ih ⊢
      omega
  have HR := hide fun W (b : Below w.heap.size w W) (k : Nat) (hk : U64 k) (s : ByteArray) (hs : s.size ≤ 65536) => recJ_any ep k he hk s hs W (hK.next b)
  have HR2 := hide fun W (k : Nat) (s : ByteArray) (hs : 65536 < s.size) (hm : s.size ≤ maxLen) => recJ_long ep k s hs hm W
  have hwb : (txt (headL ep)).size = 20 := by rw [txtJ_size, headL_len]
  have HWB := hide fun W b (j : Wst W (.pointer (some ⟨b, 0, none⟩)) []) => wBytes (.pointer (some ⟨b, 0, none⟩)) [] (txt (headL ep)) (.inr (by rw [hwb]; decide)) W (by simp) j
  rw [txtJ_list, List.nil_append] at HWB
  clear hv hb hz hK
  go_enter Tryz.func46, Tryz.ntmps46
  go_upto_region 4 with (first | (go_at_call 62; refine (newWriter_any _).mono ?_; rintro e w1 ⟨rfl, rfl⟩; have J1 := hide (Wb.new w)) | (go_at_call 38; refine (HH.out _ J1.out.bel).mono ?_; rintro e w2 ⟨rfl, b2⟩; have J2 := hide (J1.out.next b2); clear b2) | (go_at_call 65; refine (HWB.out _ _ J2.out.st).mono ?_; rintro e w3 ⟨rfl, s3, f3⟩; have J3 := hide (J2.out.step s3 f3); clear s3 f3))
  clear J1 J2 HH HWB
  go_loopw [18] (fun i wr => ∃ k : Nat, k ≤ L.length ∧ i = .int .i64 (k : Int) ∧ Hid (Wb w wr w.heap.size (fileL ep (dl (L.take k)))) ∧ Hid (∀ s ∈ L.take k, s.size ≤ 65536)) (fun i _ => (L.length - intOf i).toNat)
  case atStart => exact ⟨0, Nat.zero_le _, rfl, (by rw [show fileL ep (dl (L.take 0)) = headL ep by show headL ep ++ [] = _; rw [List.append_nil]]; exact J3), fun s hs => by simp at hs⟩
  case round =>
    clear J3
    obtain ⟨k, hk, rfl, JW, HA⟩ := hrel
    by_cases hlt : k < L.length
    · obtain ⟨s, hs⟩ : ∃ s, L[k]? = some s := ⟨_, List.getElem?_eq_getElem hlt⟩
      obtain ⟨g, off, rfl⟩ := HV.out.base (by omega)
      have hc := (HV.out.below JW.out.bel).cellS k s hs
      have h1 : (0 : Int) ≤ (k : Int) := by omega
      have h2 : (k : Int) < L.length := by omega
      have hb := HB.out
      have hmem : s ∈ L := List.mem_of_getElem? hs
      have hz := HZ.out s hmem
      have e1 : IntKind.i64.wrap ((k : Int) + 1) = k + 1 := wrapI _ (by omega) (by omega)
      have e2 : IntKind.u64.wrap (k : Int) = (k : Int) := wrapu _ (by omega) (by omega)
      by_cases hl : s.size ≤ 65536
      · have HK := hide (HR.out wr JW.out.bel k (by unfold U64; omega) s hl)
        have fl := flen_le (dl L) k
        rw [← dl_take, ← fileL_len ep] at fl
        have zr : (txt (recL ep k s.data.toList)).size ≤ 65552 := by
          rw [txtJ_size, recL_len]
          have : s.data.toList.length = s.size := by simp
          omega
        have HW : Hid (∀ W, Wb w W w.heap.size (fileL ep (dl (L.take k))) → Calls Tryz.prog 65 #[.pointer (some ⟨w.heap.size, 0, none⟩), .string (txt (recL ep k s.data.toList))] W fun e w' => e = .returned (.tuple #[]) ∧ Wb w w' w.heap.size (fileL ep (dl (L.take (k + 1))))) := fun W j => by
          refine (wBytes (.pointer (some ⟨w.heap.size, 0, none⟩)) (fileL ep (dl (L.take k))) (txt (recL ep k s.data.toList)) (.inr (by omega)) W (by omega) j.st).mono ?_
          rintro e w' ⟨rfl, s1, f1⟩
          refine ⟨rfl, ?_⟩
          rw [file_next ep L k s hs]
          exact j.step s1 f1
        have HA2 : Hid (∀ t ∈ L.take (k + 1), t.size ≤ 65536) := fun t ht => by
          have hk' := (List.getElem?_eq_some_iff.1 hs).1
          rw [List.take_succ_eq_append_getElem hk', (List.getElem?_eq_some_iff.1 hs).2] at ht
          rcases List.mem_append.1 ht with ht | ht
          · exact HA.out t ht
          · rw [List.mem_singleton.1 ht]
            exact hl
        generalize txt (recL ep k s.data.toList) = rt at *
        clear hl hz hb fl zr hmem hs
        go_wp2_with (first | (go_at_call 43; refine HK.out.mono ?_; rintro e w2 ⟨rfl, b2⟩; have J2 := hide (JW.out.next b2); clear b2) | (go_at_call 65; refine (HW.out _ J2.out).mono ?_; rintro e w3 ⟨rfl, j3⟩; have J3 := hide j3; clear j3))
        go_roundw
        case rel => exact ⟨k + 1, by omega, by go_num, J3, HA2⟩
        case measure => simp [intOf]; omega
      · have HK := hide (HR2.out wr k s (by omega) (by unfold maxLen; omega))
        have HBad : Hid (∃ s ∈ L, 65536 < s.size) := ⟨s, hmem, by omega⟩
        clear hl hz hb hmem hs
        go_wp2_with (go_at_call 43; refine HK.out.mono ?_; rintro e w2 ⟨rfl, hw⟩; subst w2)
        go_ret2
        exact ⟨JW.out.bel, .inr ⟨HBad.out, rfl⟩⟩
    · have h2 : ¬ (k : Int) < L.length := by omega
      have hke : L.take k = L := List.take_of_length_le (by omega)
      rw [hke] at JW HA
      have HT := hide (wText w.heap.size _ wr JW.out.st)
      clear hke
      go_wp2_with (go_at_call 66; refine HT.out.mono ?_; rintro e w2 ⟨rfl, hw⟩; subst w2)
      go_ret2
      exact ⟨JW.out.bel, .inl ⟨HA.out, rfl⟩⟩
end
end Go.Proofs.YtgncphoaknffnaaGreatDoor
namespace Go.Proofs.YtgncphoaknffnaaGreatDoor
open Go.RowKit
open Go.Deep
open Go.Lib
set_option linter.unusedVariables false
def boxD (gd : Nat) : Obj := .cells #[.pointer (some ⟨gd, 0, none⟩)] 23
def boxS (s : ByteArray) : Obj := .cells #[.string s] 9
theorem boxD_cell {w : World} {g gd : Nat} (h : w.heap[g]? = some (boxD gd)) : w.cell? ⟨g, 0, none⟩ = some (.pointer (some ⟨gd, 0, none⟩)) := by rw [cell_of_row _ _ 0 _ _ _ h]; rfl
theorem boxS_cell {w : World} {g : Nat} {s : ByteArray} (h : w.heap[g]? = some (boxS s)) : w.cell? ⟨g, 0, none⟩ = some (.string s) := by rw [cell_of_row _ _ 0 _ _ _ h]; rfl
/-- What is done to write anew. -/
def fWA (gd g0 g1 g2 : Nat) : Array Value := #[.func (.func 67) #[] #[.pointer (some ⟨g0, 0, none⟩), .pointer (some ⟨g1, 0, none⟩)], .func (.func 68) #[] #[.pointer (some ⟨g0, 0, none⟩), .pointer (some ⟨g1, 0, none⟩), .pointer (some ⟨g2, 0, none⟩)], .func (.func 39) #[.pointer (some ⟨gd, 0, none⟩)] #[], .func (.func 69) #[] #[.pointer (some ⟨g0, 0, none⟩), .pointer (some ⟨g1, 0, none⟩)], .func (.func 39) #[.pointer (some ⟨gd, 0, none⟩)] #[]]
def oWA (gd g0 g1 g2 : Nat) : Obj := .cells (fWA gd g0 g1 g2) 66
theorem bs5F (w : World) (a b c d e : Fn) (a1 a2 b1 b2 c1 c2 d1 d2 e1 e2 : Array Value) : (Instr.buildSlice 59 5 #[(0, .func a a1 a2), (1, .func b b1 b2), (2, .func c c1 c2), (3, .func d d1 d2), (4, .func e e1 e2)]).run Tryz.prog w = .ok (.slice (some ⟨w.heap.size, 0, none⟩) 5 5) (w.alloc (.cells #[.func a a1 a2, .func b b1 b2, .func c c1 c2, .func d d1 d2, .func e e1 e2] 66)) := by kernel_rfl
/-- The disk, step by step. -/
def xsW (x : StD) (nm s : ByteArray) : Nat → StD
  | 0 => x
  | 1 => x
  | 2 => mkC x (wrC (asideN nm) 0 s)
  | 3 => syC (mkC x (wrC (asideN nm) 0 s))
  | 4 => mkC (syC (mkC x (wrC (asideN nm) 0 s))) (mvC (asideN nm) nm)
  | _ => syC (mkC (syC (mkC x (wrC (asideN nm) 0 s))) (mvC (asideN nm) nm))
def FW : Nat → Nat
  | 0 => 67
  | 1 => 68
  | 2 => 39
  | 3 => 69
  | _ => 39
def faW (gd : Nat) : Nat → Array Value
  | 0 => #[]
  | 1 => #[]
  | 2 => #[.pointer (some ⟨gd, 0, none⟩)]
  | 3 => #[]
  | _ => #[.pointer (some ⟨gd, 0, none⟩)]
def caW (g0 g1 g2 : Nat) : Nat → Array Value
  | 0 => #[.pointer (some ⟨g0, 0, none⟩), .pointer (some ⟨g1, 0, none⟩)]
  | 1 => #[.pointer (some ⟨g0, 0, none⟩), .pointer (some ⟨g1, 0, none⟩), .pointer (some ⟨g2, 0, none⟩)]
  | 2 => #[]
  | 3 => #[.pointer (some ⟨g0, 0, none⟩), .pointer (some ⟨g1, 0, none⟩)]
  | _ => #[]
/-- A disk on which a file may be written anew. -/
structure Wa (x : StD) (nm s : ByteArray) : Prop where
  vd : Vd x
  plan : x.plan = []
  live : x.dead = false
  name : okJ nm = true
  none_ : x.now.get (ls (asideN nm)) = none
  room : x.now.n < 64
  long : s.size ≤ 16777216
  many : x.loose.length < 9990
  made : x.made < 999990
section
variable {x : StD} {nm s : ByteArray}
theorem Wa.rdy (h : Wa x nm s) : rdy x.dead [asideN nm] = 0 := by
  unfold Go.Proofs.YtgncphoaknffnaaGreatDoor.rdy
  rw [h.live]
  simp [aside_name h.name]
theorem Wa.f2 (h : Wa x nm s) : fnd x (asideN nm) = 2 := by
  unfold fnd
  rw [h.rdy, h.none_]
  rfl
theorem Wa.ok2 (h : Wa x nm s) : okD x.now (wrC (asideN nm) 0 s) := wr_ok h.vd.bd (aside_name h.name) (Nat.zero_le _) (by have := h.long; omega) (.inr h.room)
theorem Wa.v2 (h : Wa x nm s) : Vd (xsW x nm s 2) := h.vd.mkC h.ok2 (by have := h.many; omega) (by have := h.made; omega)
theorem Wa.v3 (h : Wa x nm s) : Vd (xsW x nm s 3) := h.v2.syC
theorem Wa.get3 (h : Wa x nm s) : ((xsW x nm s 3).now.get (ls (asideN nm))).isSome = true := by
  show ((x.now.put (ls (asideN nm)) _).get (ls (asideN nm))).isSome = true
  rw [FS.put_get, if_pos rfl]
  rfl
theorem Wa.f3 (h : Wa x nm s) : fnd (xsW x nm s 3) (asideN nm) = 0 := by
  unfold fnd
  rw [show (xsW x nm s 3).dead = x.dead from rfl, h.rdy, h.get3]
  rfl
theorem Wa.n3 (h : Wa x nm s) : 1 ≤ (xsW x nm s 3).now.n := by
  show 1 ≤ (if (x.now.get (ls (asideN nm))).isSome then x.now.n else x.now.n + 1)
  rw [h.none_]
  show 1 ≤ x.now.n + 1
  omega
theorem Wa.v4 (h : Wa x nm s) : Vd (xsW x nm s 4) := h.v3.mkC (mv_ok h.v3.bd (aside_name h.name) (okJ_name h.name) h.get3 h.n3) (by show (0 : Nat) < 10000; decide) (by show x.made + 1 < _; have := h.made; omega)
end
section
set_option maxRecDepth 10000
set_option maxHeartbeats 2000000
variable {K : Nat → Prop} {B w : World} {gj gd : Nat} {J : Jr} {x : StD} {T : Nat → Prop} {v : Value}
theorem wa1 {g0 g1 : Nat} {nm : ByteArray} (hd : DK w gd x T) (h0 : w.heap[g0]? = some (boxD gd)) (h1 : w.heap[g1]? = some (boxS nm)) (hm : nm.size ≤ 28) (hf : fnd x (asideN nm) = 2) : Calls Tryz.prog 67 #[.pointer (some ⟨g0, 0, none⟩), .pointer (some ⟨g1, 0, none⟩)] w fun e w' => e = .returned (.int .i64 0) ∧ Below w.heap.size w w' := by
  have HA := hide (aside_none gd x T nm w hd hm hf)
  have c0 := boxD_cell h0
  have c1 := boxS_cell h1
  clear hd h0 h1 hm hf
  go_enter Tryz.func67, Tryz.ntmps67
  go_wp2_with (go_at_call 35; refine HA.out.mono ?_; rintro e w1 ⟨rfl, b1⟩; have B1 := hide b1; clear b1)
  go_ret
  exact ⟨rfl, B1.out⟩
theorem wa2 {g0 g1 g2 : Nat} {nm s : ByteArray} (hd : DK w gd x T) (h0 : w.heap[g0]? = some (boxD gd)) (h1 : w.heap[g1]? = some (boxS nm)) (h2 : w.heap[g2]? = some (boxS s)) (h : Wa x nm s) : Calls Tryz.prog 68 #[.pointer (some ⟨g0, 0, none⟩), .pointer (some ⟨g1, 0, none⟩), .pointer (some ⟨g2, 0, none⟩)] w fun e w' => e = .returned (.int .i64 0) ∧ DK w' gd (mkC x (wrC (asideN nm) 0 s)) (grow T w w') ∧ Fr T w w' := by
  have HA := hide (write_ok gd x T (asideN nm) 0 s w hd h.vd h.plan h.rdy (Nat.zero_le _) (by have := h.long; omega) (.inr h.room) (by have := h.many; omega) (by have := h.made; omega))
  have hz := okJ_size h.name
  have hz2 : (nm.size : Int) ≤ 28 := by omega
  have c0 := boxD_cell h0
  have c1 := boxS_cell h1
  have c2 := boxS_cell h2
  have hq : nm ++ (⟨#[46, 116, 109, 112]⟩ : ByteArray) = asideN nm := rfl
  clear hd h0 h1 h2 h
  go_enter Tryz.func68, Tryz.ntmps68
  go_wp2_with (go_at_call 37; refine HA.out.mono ?_; rintro e w1 ⟨rfl, b1⟩; have B1 := hide b1; clear b1)
  go_ret
  exact ⟨rfl, B1.out⟩
theorem wa3 {g0 g1 : Nat} {nm : ByteArray} (hd : DK w gd x T) (h0 : w.heap[g0]? = some (boxD gd)) (h1 : w.heap[g1]? = some (boxS nm)) (hV : Vd x) (hp : x.plan = []) (hf : fnd x (asideN nm) = 0) (hn : okJ nm = true) (hn1 : 1 ≤ x.now.n) (hmany : x.loose.length < 10000) (hmade : x.made < 1000000) : Calls Tryz.prog 69 #[.pointer (some ⟨g0, 0, none⟩), .pointer (some ⟨g1, 0, none⟩)] w fun e w' => e = .returned (.int .i64 0) ∧ DK w' gd (mkC x (mvC (asideN nm) nm)) (grow T w w') ∧ Fr T w w' := by
  have HA := hide (dmove_ok gd x T (asideN nm) nm w hd hV hp hf (aside_name hn) (okJ_name hn) hn1 hmany hmade)
  have hz := okJ_size hn
  have hz2 : (nm.size : Int) ≤ 28 := by omega
  have c0 := boxD_cell h0
  have c1 := boxS_cell h1
  have hq : nm ++ (⟨#[46, 116, 109, 112]⟩ : ByteArray) = asideN nm := rfl
  clear hd h0 h1 hV hp hf hn hn1 hmany hmade
  go_enter Tryz.func69, Tryz.ntmps69
  go_wp2_with (go_at_call 70; refine HA.out.mono ?_; rintro e w1 ⟨rfl, b1⟩; have B1 := hide b1; clear b1)
  go_ret
  exact ⟨rfl, B1.out⟩
theorem writeAnew_any (nm s : ByteArray) (w : World) : Calls Tryz.prog 47 #[.pointer (some ⟨gd, 0, none⟩), .string nm, .string s] w fun e w' => ∃ g0 g1 g2 gs, e = .returned (.slice (some ⟨gs, 0, none⟩) 5 5) ∧ Below w.heap.size w w' ∧ (w'.heap[g0]? = some (boxD gd) ∧ w'.heap[g1]? = some (boxS nm) ∧ w'.heap[g2]? = some (boxS s) ∧ w'.heap[gs]? = some (oWA gd g0 g1 g2)) ∧ w.heap.size ≤ g0 ∧ w.heap.size ≤ g1 ∧ w.heap.size ≤ g2 ∧ w.heap.size ≤ gs := by
  have hbs := bs5F
  have hmk := hmf
  have b0 : Below w.heap.size w (w.alloc (boxD gd)) := (Below.refl _ _).alloc (Nat.le_refl _) _
  have b1 := bel_new b0 (boxS nm)
  have b2 := bel_new b1 (boxS s)
  have r0 : (((w.alloc (boxD gd)).alloc (boxS nm)).alloc (boxS s)).heap[w.heap.size]? = some (boxD gd) := by
    have q1 : Below (w.alloc (boxD gd)).heap.size (w.alloc (boxD gd)) ((w.alloc (boxD gd)).alloc (boxS nm)) := (Below.refl _ _).alloc (Nat.le_refl _) _
    have q2 := bel_new q1 (boxS s)
    exact (q2.block _ (by simp)).trans (heap_alloc_last w (boxD gd))
  have r1 : (((w.alloc (boxD gd)).alloc (boxS nm)).alloc (boxS s)).heap[(w.alloc (boxD gd)).heap.size]? = some (boxS nm) := by
    have q1 : Below ((w.alloc (boxD gd)).alloc (boxS nm)).heap.size ((w.alloc (boxD gd)).alloc (boxS nm)) (((w.alloc (boxD gd)).alloc (boxS nm)).alloc (boxS s)) := (Below.refl _ _).alloc (Nat.le_refl _) _
    exact (q1.block _ (by simp)).trans (heap_alloc_last (w.alloc (boxD gd)) (boxS nm))
  have r2 := heap_alloc_last ((w.alloc (boxD gd)).alloc (boxS nm)) (boxS s)
  have c0 := boxD_cell r0
  have s1 : (w.alloc (boxD gd)).heap.size = w.heap.size + 1 := by simp
  have s2 : ((w.alloc (boxD gd)).alloc (boxS nm)).heap.size = w.heap.size + 1 + 1 := by simp
  rw [s1] at r1
  rw [s2] at r2
  have R := hide (And.intro r0 (And.intro r1 r2))
  have B2 := hide b2
  clear b0 b1 b2 r0 r1 r2 s1 s2
  unfold boxD boxS at c0
  go_enter Tryz.func47, Tryz.ntmps47
  go_upto_region 1 with fail
  have hW : ((w.alloc (.cells #[.pointer (some ⟨gd, 0, none⟩)] 23)).alloc (.cells #[.string nm] 9)).alloc (.cells #[.string s] 9) = ((w.alloc (boxD gd)).alloc (boxS nm)).alloc (boxS s) := rfl
  generalize hW3 : ((w.alloc (.cells #[.pointer (some ⟨gd, 0, none⟩)] 23)).alloc (.cells #[.string nm] 9)).alloc (.cells #[.string s] 9) = W3 at *
  rw [← hW] at R B2
  clear hW hW3
  go_wp2
  go_ret
  have b3 := bel_new B2.out (oWA gd w.heap.size (w.heap.size + 1) (w.heap.size + 1 + 1))
  have b4 : Below W3.heap.size W3 (W3.alloc (oWA gd w.heap.size (w.heap.size + 1) (w.heap.size + 1 + 1))) := (Below.refl _ _).alloc (Nat.le_refl _) _
  obtain ⟨r0, r1, r2⟩ := R.out
  exact ⟨w.heap.size, w.heap.size + 1, w.heap.size + 1 + 1, W3.heap.size, rfl, b3, ⟨(b4.block _ (lt_heap r0)).trans r0, (b4.block _ (lt_heap r1)).trans r1, (b4.block _ (lt_heap r2)).trans r2, heap_alloc_last W3 _⟩, Nat.le_refl _, by omega, by omega, B2.out.size⟩
end
end Go.Proofs.YtgncphoaknffnaaGreatDoor
namespace Go.Proofs.YtgncphoaknffnaaGreatDoor
open Go.RowKit
open Go.Deep
open Go.Lib
set_option linter.unusedVariables false
theorem LX.fr {K : Nat → Prop} {B w : World} {u : Value} {L : List ByteArray} (h : LX KS B u L) (hu : ∀ g, u.ownBlock = some g → ¬ K g) (f : Fr K B w) : LX KS w u L := by
  obtain ⟨ao, cap, rfl, h2, h3⟩ := h
  refine ⟨ao, cap, rfl, h2, fun i hi => ?_⟩
  obtain ⟨g, off, rfl, hg, hr⟩ := h3 i hi
  refine ⟨g, off, rfl, Nat.lt_of_lt_of_le hg f.size, fun j v hv => ?_⟩
  rw [← hr j v hv]
  exact World.cell?_of_block (a := ⟨g, off + i * KS.k + j, none⟩) (f.block g hg (hu g rfl))
section
set_option maxRecDepth 10000
set_option maxHeartbeats 2000000
variable {K : Nat → Prop} {B w : World} {gj gd : Nat} {J : Jr} {x : StD} {T : Nat → Prop} {v : Value}
theorem order_anew {g0 g1 g2 gs : Nat} {s : ByteArray} (h : JB K B w gj gd J x T v) (he : Ex w T [(g0, boxD gd), (g1, boxS J.nm), (g2, boxS s), (gs, oWA gd g0 g1 g2)]) (hw : Wa x J.nm s) : Calls Tryz.prog 17 #[.slice (some ⟨gs, 0, none⟩) 5 5] w fun e w' => e = .returned (.int .i64 0) ∧ ∃ T', JB K B w' gj gd J (xsW x J.nm s 5) T' v := by
  refine (inOrder_any 5 gs 5 FW (faW gd) (caW g0 g1 g2) (fun k W => ∃ T', JB K B W gj gd J (xsW x J.nm s k) T' v ∧ Ex W T' [(g0, boxD gd), (g1, boxS J.nm), (g2, boxS s), (gs, oWA gd g0 g1 g2)]) (fun _ _ => False) (by decide) (fun k W hk => ?_) (fun k W hk hP => ?_) (fun k W hk hP => ?_) w ⟨T, h, he⟩).mono ?_
  · rcases k with _ | _ | _ | _ | _ | k
    · kernel_rfl
    · kernel_rfl
    · kernel_rfl
    · kernel_rfl
    · kernel_rfl
    · omega
  · obtain ⟨T', j, ex⟩ := hP
    have hr := ex.at_ (p := (gs, oWA gd g0 g1 g2)) (by simp)
    rw [cell_of_row _ _ _ _ _ _ hr]
    rcases k with _ | _ | _ | _ | _ | k
    · rfl
    · rfl
    · rfl
    · rfl
    · rfl
    · omega
  · obtain ⟨T', j, ex⟩ := hP
    have q0 := (ex (g0, boxD gd) (by simp)).1
    have q1 := (ex (g1, boxS J.nm) (by simp)).1
    have q2 := (ex (g2, boxS s) (by simp)).1
    rcases k with _ | _ | _ | _ | _ | k
    · refine (wa1 j.dk q0 q1 (okJ_size hw.name) hw.f2).mono ?_
      rintro e w' ⟨rfl, b⟩
      exact ⟨0, rfl, fun _ => ⟨T', j.next b, ex.next b⟩, fun e => absurd rfl e⟩
    · refine (wa2 j.dk q0 q1 q2 hw).mono ?_
      rintro e w' ⟨rfl, b⟩
      exact ⟨0, rfl, fun _ => ⟨_, j.disk b, ex.disk b.2⟩, fun e => absurd rfl e⟩
    · refine (sync_ok gd (xsW x J.nm s 2) T' W j.dk hw.v2 hw.plan hw.live).mono ?_
      rintro e w' ⟨rfl, b⟩
      exact ⟨0, rfl, fun _ => ⟨_, j.disk b, ex.disk b.2⟩, fun e => absurd rfl e⟩
    · refine (wa3 j.dk q0 q1 hw.v3 hw.plan hw.f3 hw.name hw.n3 (by show (0 : Nat) < 10000; decide) (by show x.made + 1 < _; have := hw.made; omega)).mono ?_
      rintro e w' ⟨rfl, b⟩
      exact ⟨0, rfl, fun _ => ⟨_, j.disk b, ex.disk b.2⟩, fun e => absurd rfl e⟩
    · refine (sync_ok gd (xsW x J.nm s 4) T' W j.dk hw.v4 hw.plan hw.live).mono ?_
      rintro e w' ⟨rfl, b⟩
      exact ⟨0, rfl, fun _ => ⟨_, j.disk b, ex.disk b.2⟩, fun e => absurd rfl e⟩
    · omega
  · rintro e w' (⟨rfl, T', j, _⟩ | ⟨E, _, _, hF⟩)
    · exact ⟨rfl, T', j⟩
    · exact hF.elim
theorem renew_long (h : JB K B w gj gd J x T v) (hK : KB K B) (hd : J.dead = false) (u : Value) (L : List ByteArray) (hu : LX KS w u L) (hep : J.ep + 1 < 18446744073709551616) (hb : flen (dl L) ≤ 1099511627776) (hz : ∀ s ∈ L, s.size ≤ 140737488351232) (hl : ∃ s ∈ L, 65536 < s.size) : Calls Tryz.prog 22 #[.pointer (some ⟨gj, 0, none⟩), u] w fun e w' => e = .returned (.int .i64 121) ∧ Below w.heap.size w w' := by
  have HD := hide (deadJ_any h)
  rw [hd] at HD
  have HF := hide (fileBytes_any (J.ep + 1) hep L u w hu hb hz (hK.at_ h.bel))
  rw [show ((J.ep + 1 : Nat) : Int) = (J.ep : Int) + 1 by omega] at HF
  have HL := hide hl
  have c2 := h.c2
  have e1 : IntKind.u64.wrap ((J.ep : Int) + 1) = (J.ep : Int) + 1 := wrapu _ (by omega) (by omega)
  clear h hd hb hz hl hK hu
  go_enter Tryz.func22, Tryz.ntmps22
  go_upto_region 4 with (first | (go_at_call 30; refine HD.out.mono ?_; rintro e w1 ⟨rfl, hw⟩; subst w1) | (go_at_call 46; refine HF.out.mono ?_; rintro e w1 ⟨b1, (⟨ha, rfl⟩ | ⟨ha, rfl⟩)⟩; (exfalso; obtain ⟨s, hs, hlt⟩ := HL.out; have := ha s hs; omega); have B1 := hide b1; clear b1 ha))
  go_wp2
  go_ret
  exact ⟨rfl, B1.out⟩
theorem renew_ok (h : JB K B w gj gd J x T v) (hK : KB K B) (hd : J.dead = false) (u : Value) (L : List ByteArray) (hu : LX KS B u L) (huK : ∀ g, u.ownBlock = some g → ¬ K g) (hep : J.ep + 1 < 18446744073709551616) (hb : flen (dl L) ≤ 16777216) (hz : ∀ s ∈ L, s.size ≤ 65536) (hw : Wa x J.nm (txt (fileL (J.ep + 1) (dl L)))) : Calls Tryz.prog 22 #[.pointer (some ⟨gj, 0, none⟩), u] w fun e w' => e = .returned (.int .i64 0) ∧ ∃ T' v', JB K B w' gj gd { J with ep := J.ep + 1, recs := L } (xsW x J.nm (txt (fileL (J.ep + 1) (dl L))) 5) T' v' := by
  have HD := hide (deadJ_any h)
  rw [hd] at HD
  have HF := hide (fileBytes_any (J.ep + 1) hep L u w (hu.fr huK h.bel) (by omega) (fun s hs => by have := hz s hs; omega) (hK.at_ h.bel))
  rw [show ((J.ep + 1 : Nat) : Int) = (J.ep : Int) + 1 by omega] at HF
  have HZ := hide hz
  have h16 : 16 * L.length ≤ flen (dl L) := by
    clear hu huK hz HZ HF hb hw
    unfold flen
    induction L with
    | nil => simp
    | cons a r ih =>
      simp only [dl, List.map_cons, List.sum_cons, List.length_cons] at ih ⊢
      omega
  have HU := hide fun W (f : Fr K B W) => cloneS_any u L W (hu.fr huK f) (by omega)
  have HWA := hide fun W => writeAnew_any (gd := gd) J.nm (txt (fileL (J.ep + 1) (dl L))) W
  have HO := hide fun W T' g0 g1 g2 gs (j : JB K B W gj gd J x T' v) e => order_anew (s := txt (fileL (J.ep + 1) (dl L))) (g0 := g0) (g1 := g1) (g2 := g2) (gs := gs) j e hw
  have H0 := hide h
  have c2 := h.c2
  have e1 : IntKind.u64.wrap ((J.ep : Int) + 1) = (J.ep : Int) + 1 := wrapu _ (by omega) (by omega)
  have e2 : ¬ (J.ep : Int) = 18446744073709551615 := by omega
  generalize xsW x J.nm (txt (fileL (J.ep + 1) (dl L))) 5 = X at *
  generalize txt (fileL (J.ep + 1) (dl L)) = ft at *
  clear h hd hb hz hK hu huK hep hw
  go_enter Tryz.func22, Tryz.ntmps22
  go_upto_region 4 with (first | (go_at_call 30; refine HD.out.mono ?_; rintro e w1 ⟨rfl, hw⟩; subst w1) | (go_at_call 46; refine HF.out.mono ?_; rintro e w1 ⟨b1, (⟨ha, rfl⟩ | ⟨ha, rfl⟩)⟩; rotate_left; (exfalso; obtain ⟨s, hs, hlt⟩ := ha; have := HZ.out s hs; omega); have B1 := hide b1; clear b1 ha))
  have J1 := hide (H0.out.next B1.out)
  have k2 := J1.out.c2
  clear c2 HF HZ HD H0 B1
  go_upto_region 8 with fail
  have c0 := J1.out.c0
  have c1 := J1.out.c1
  refine wp_region_held_drew (S := fun W => W.cell? ⟨gj, 0, none⟩ = some (.pointer (some ⟨gd, 0, none⟩)) ∧ W.cell? ⟨gj, 1, none⟩ = some (.string J.nm)) (by kernel_rfl) ⟨c0, c1⟩ (fun hH => ?_)
  refine wpAnyH_take (i := 0) (v := .pointer (some ⟨gj, 0, none⟩)) rfl (by kernel_rfl) (by kernel_rfl) (by kernel_rfl) (fun _ _ _ h => h) (yl_move (by rfl) _ (by rfl) _ (by rfl)) hH ?_
  change wpAnyH _ _ _ _ _ _ _ (Act.put _ (some 28) _) _
  simp only [Act.put, List.setIfInBounds_toArray, List.set_cons_zero, List.set_cons_succ]
  refine wpAnyH_take (i := 1) (v := .pointer (some ⟨gj, 0, none⟩)) rfl (by kernel_rfl) (by kernel_rfl) (by kernel_rfl) (fun _ _ _ h => h) (.inl ⟨by rfl, fun W _ => by go_simp⟩) hH ?_
  change wpAnyH _ _ _ _ _ _ _ (Act.put _ (some 29) _) _
  simp only [Act.put, List.setIfInBounds_toArray, List.set_cons_zero, List.set_cons_succ]
  refine wpAnyH_take (i := 2) (v := .pointer (some ⟨gj, 0, none⟩)) rfl (by kernel_rfl) (by kernel_rfl) (by kernel_rfl) (fun _ _ _ h => h) (.inl ⟨by rfl, fun W _ => by go_simp⟩) hH ?_
  change wpAnyH _ _ _ _ _ _ _ (Act.put _ (some 30) _) _
  simp only [Act.put, List.setIfInBounds_toArray, List.set_cons_zero, List.set_cons_succ]
  refine wpAnyH_take (i := 3) (v := .pointer (some ⟨gd, 0, none⟩)) rfl (by kernel_rfl) (by kernel_rfl) (by kernel_rfl) (fun _ _ _ h => h) (.inl ⟨by rfl, fun W hS => by have c4 := hS.1; go_simp⟩) hH ?_
  change wpAnyH _ _ _ _ _ _ _ (Act.put _ (some 31) _) _
  simp only [Act.put, List.setIfInBounds_toArray, List.set_cons_zero, List.set_cons_succ]
  refine wpAnyH_take (i := 4) (v := .pointer (some ⟨gj, 0, none⟩)) rfl (by kernel_rfl) (by kernel_rfl) (by kernel_rfl) (fun _ _ _ h => h) (yl_move (by rfl) _ (by rfl) _ (by rfl)) hH ?_
  change wpAnyH _ _ _ _ _ _ _ (Act.put _ (some 32) _) _
  simp only [Act.put, List.setIfInBounds_toArray, List.set_cons_zero, List.set_cons_succ]
  refine wpAnyH_take (i := 5) (v := .pointer (some ⟨gj, 0, none⟩)) rfl (by kernel_rfl) (by kernel_rfl) (by kernel_rfl) (fun _ _ _ h => h) (.inl ⟨by rfl, fun W _ => by go_simp⟩) hH ?_
  change wpAnyH _ _ _ _ _ _ _ (Act.put _ (some 33) _) _
  simp only [Act.put, List.setIfInBounds_toArray, List.set_cons_zero, List.set_cons_succ]
  refine wpAnyH_take (i := 6) (v := .pointer (some ⟨gj, 1, none⟩)) rfl (by kernel_rfl) (by kernel_rfl) (by kernel_rfl) (fun _ _ _ h => h) (.inl ⟨by rfl, fun W _ => by go_simp⟩) hH ?_
  change wpAnyH _ _ _ _ _ _ _ (Act.put _ (some 34) _) _
  simp only [Act.put, List.setIfInBounds_toArray, List.set_cons_zero, List.set_cons_succ]
  refine wpAnyH_take (i := 7) (v := .string J.nm) rfl (by kernel_rfl) (by kernel_rfl) (by kernel_rfl) (fun _ _ _ h => h) (.inl ⟨by rfl, fun W hS => by have c4 := hS.2; go_simp⟩) hH ?_
  change wpAnyH _ _ _ _ _ _ _ (Act.put _ (some 35) _) _
  simp only [Act.put, List.setIfInBounds_toArray, List.set_cons_zero, List.set_cons_succ]
  refine wpAnyH_take (i := 8) (v := .string ft) rfl (by kernel_rfl) (by kernel_rfl) (by kernel_rfl) (fun _ _ _ h => h) (yl_move (by rfl) _ (by rfl) _ (by rfl)) hH ?_
  change wpAnyH _ _ _ _ _ _ _ (Act.put _ (some 36) _) _
  simp only [Act.put, List.setIfInBounds_toArray, List.set_cons_zero, List.set_cons_succ]
  refine wpAnyH_ready (rs := [9]) (by kernel_rfl) (by simp) (AllReadyH.cons rfl (fun K1 hK1 => ?_) AllReadyH.nil)
  go_simp
  refine (HWA.out _).mono ?_
  rintro e w3 ⟨g0, g1, g2, gs, rfl, b3, ⟨r0, r1, r2, r3⟩, l0, l1, l2, l3⟩
  have b4 : Below w1.heap.size w1 w3 := (Below.refl w1.heap.size w1).drew.trans b3
  have J3 := hide (J1.out.next b4)
  have E3 : Hid (Ex w3 T [(g0, boxD gd), (g1, boxS J.nm), (g2, boxS ft), (gs, oWA gd g0 g1 g2)]) := fun p hp => by
    have lt := J1.out.dk.lt
    have hsz : w1.drew.heap.size = w1.heap.size := rfl
    rcases List.mem_cons.1 hp with rfl | hp
    · exact ⟨r0, fun e => by have := lt _ e; simp only [] at *; omega⟩
    · rcases List.mem_cons.1 hp with rfl | hp
      · exact ⟨r1, fun e => by have := lt _ e; simp only [] at *; omega⟩
      · rcases List.mem_cons.1 hp with rfl | hp
        · exact ⟨r2, fun e => by have := lt _ e; simp only [] at *; omega⟩
        · rcases List.mem_cons.1 hp with rfl | hp
          · exact ⟨r3, fun e => by have := lt _ e; simp only [] at *; omega⟩
          · cases hp
  clear b3 b4 r0 r1 r2 r3 l0 l1 l2 l3
  refine hK1.out _ _ ⟨J3.out.c0, J3.out.c1⟩ (fun hH => ?_)
  clear hK1
  refine wpAnyH_ready (rs := [10]) (by kernel_rfl) (by simp) (AllReadyH.cons rfl (fun K1 hK1 => ?_) AllReadyH.nil)
  go_simp
  refine (HO.out _ _ _ _ _ _ J3.out E3.out).mono ?_
  rintro e w5 ⟨rfl, T5, j5⟩
  have J5 := hide j5
  clear j5
  refine hK1.out _ _ ⟨J5.out.c0, J5.out.c1⟩ (fun hH => ?_)
  clear hK1
  refine wpAnyH_take (i := 11) (v := .int .i64 0) rfl (by kernel_rfl) (by kernel_rfl) (by kernel_rfl) (fun _ _ _ h => h) (.inl ⟨by rfl, fun W _ => by go_simp⟩) hH ?_
  change wpAnyH _ _ _ _ _ _ _ (Act.put _ (some 7) _) _
  simp only [Act.put, List.setIfInBounds_toArray, List.set_cons_zero, List.set_cons_succ]
  refine wpAnyH_done (by kernel_rfl) ?_ _
  clear J1 J3 E3 HO HWA c0 c1 k2
  have q2 := J5.out.c2
  have f2 := J5.out.fz 2
  have J6 := hide (J5.out.set 2 (.int .u64 ((J.ep + 1 : Nat) : Int)) (J' := { J with ep := J.ep + 1 }) rfl J5.out.own J5.out.vfar)
  rw [show ((J.ep + 1 : Nat) : Int) = (J.ep : Int) + 1 by omega] at J6
  go_upto_region 13 with fail
  generalize w5.setCell ⟨gj, 2, none⟩ (.int .u64 ((J.ep : Int) + 1)) = W6 at *
  clear q2 f2 J5
  go_wp2_with (go_at_call 48; refine (HU.out _ J6.out.bel).mono ?_; rintro e w7 ⟨v7, rfl, o7, b7, far7⟩; obtain ⟨ao7, c7, rfl⟩ := o7.form; have J7 := hide (J6.out.next b7); have q3 := J7.out.c3; have f3 := J7.out.fz 3; have FIN := hide (And.intro o7 (And.intro b7 far7)); clear o7 b7 far7)
  go_ret
  obtain ⟨o7, b7, far7⟩ := FIN.out
  refine ⟨rfl, _, _, J7.out.set 3 _ rfl (.inl o7) (fun g hg => ?_)⟩
  have h1 := far7 g hg
  have h2 := J6.out.bel.size
  refine ⟨.inr (by omega), fun e => ?_, ?_⟩
  · have := J6.out.dk.lt _ e
    omega
  · have := J6.out.lt
    omega
end
end Go.Proofs.YtgncphoaknffnaaGreatDoor
