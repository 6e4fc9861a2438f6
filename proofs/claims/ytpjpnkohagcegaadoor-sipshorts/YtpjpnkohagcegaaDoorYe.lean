/- The contracts of put, Write, Sum, Len and Clone of a digest. -/
import Derived.Test.YtpjpnkohagcegaaDoorYd
namespace Go.Proofs.YtpjpnkohagcegaaDoor
open Go.RowKit
open Go.Deep
/-- A digest: its words, its tail and its length. -/
structure Sm where
  v : Q4
  t : UInt64
  n : Nat
/-- The tail behind one more byte. -/
def Sm.tl (s : Sm) (b : UInt8) : UInt64 := s.t ||| UInt64.ofNat (b.toNat * 2 ^ (8 * (s.n % 8)))
/-- A digest behind one more byte. -/
def Sm.put (s : Sm) (b : UInt8) : Sm := if (s.n + 1) % 8 = 0 then ⟨s.v.mix (s.tl b), 0, s.n + 1⟩ else ⟨s.v, s.tl b, s.n + 1⟩
/-- The digest of what was written. -/
def Sm.sum (s : Sm) : UInt64 := (s.v.mix (s.t ||| UInt64.ofNat (s.n * 72057594037927936 % 18446744073709551616))).fin
/-- A digest at block b. -/
def Sat (w : World) (b : Nat) (s : Sm) : Prop := Sst w b s.v s.t s.n
theorem tl_int (t : UInt64) (b : UInt8) (n : Nat) : bits .or .u64 (t.toNat : Int) (IntKind.u64.wrap (IntKind.u64.wrap (b.toNat : Int) * 2 ^ (8 * (n % 8)))) = ((t ||| UInt64.ofNat (b.toNat * 2 ^ (8 * (n % 8)))).toNat : Int) := by
  have := b.toNat_lt
  rw [← orQ, UInt64.toNat_ofNat', wrapu (b.toNat : Int) (by omega) (by omega), wrapQ]
  simp
attribute [local go_sem ↓] ldq_eq svq_eq
section
set_option maxRecDepth 10000
set_option maxHeartbeats 1000000
theorem put_any (b : Nat) (s : Sm) (x : UInt8) (w : World) (hs : s.n < 9223372036854775800) (h : Sat w b s) :
    Calls Tryd.prog 44 #[.pointer (some ⟨b, 0, none⟩), .int .u8 (x.toNat : Int)] w fun e w' => e = .returned (.tuple #[]) ∧ Sat w' b (s.put x) ∧ Rfr b w w' := by
  obtain ⟨v, t, n⟩ := s
  have h0 : Sst w b v t n := h
  clear h
  simp only at hs
  have c4 := h0.tail
  have c5 := h0.long
  have f4 := h0.frozen 4
  have e0 := hide (tl_int t x n)
  go_enter Tryd.func44, Tryd.ntmps44
  go_upto_region 0 with fail
  go_region
  rw [e0.out]
  have h1 : Sst (w.setCell ⟨b, 4, none⟩ (.int .u64 ((t ||| UInt64.ofNat (x.toNat * 2 ^ (8 * (n % 8)))).toNat : Int))).drew b v (t ||| UInt64.ofNat (x.toNat * 2 ^ (8 * (n % 8)))) n := h0.setTail _
  have R1 := hide ((Rfr.setCell b w 4 (.int .u64 ((t ||| UInt64.ofNat (x.toNat * 2 ^ (8 * (n % 8)))).toNat : Int))).trans (Rfr.drew b _))
  generalize (w.setCell ⟨b, 4, none⟩ (.int .u64 ((t ||| UInt64.ofNat (x.toNat * 2 ^ (8 * (n % 8)))).toNat : Int))).drew = W1 at *
  generalize hT : t ||| UInt64.ofNat (x.toNat * 2 ^ (8 * (n % 8))) = t1 at *
  have HT : Hid (Sm.tl ⟨v, t, n⟩ x = t1) := hT
  clear c4 c5 f4 e0 h0 hT
  have c4 := h1.tail
  have c5 := h1.long
  have f5 := h1.frozen 5
  have q1 : IntKind.i64.wrap ((n : Int) + 1) = (n : Int) + 1 := wrapI _ (by omega) (by omega)
  have h2 := h1.setLong (n + 1)
  rw [show ((n + 1 : Nat) : Int) = (n : Int) + 1 from rfl] at h2
  have d4 := h2.tail
  have d5 : (W1.setCell ⟨b, 5, none⟩ (.int .i64 ((n : Int) + 1))).cell? ⟨b, 5, none⟩ = some (.int .i64 ((n : Int) + 1)) := h2.long
  have R2 := hide (R1.out.trans (Rfr.setCell b W1 5 (.int .i64 ((n : Int) + 1))))
  clear R1
  by_cases hm : (n + 1) % 8 = 0
  · have t1' : (((n : Int) + 1) % 8 == 0) = true := by simp; omega
    have H2 := hide h2
    have HM := hide fun W => mixed_any v t1 W
    have HP : Hid (Sm.put ⟨v, t, n⟩ x = ⟨v.mix t1, 0, n + 1⟩) := by
      unfold Hid Sm.put
      rw [if_pos hm, HT.out]
    generalize v.mix t1 = u at *
    go_upto_region 3 with fail
    generalize W1.setCell ⟨b, 5, none⟩ (.int .i64 ((n : Int) + 1)) = W2 at *
    have l1 := Sst.ld (w := W2.drew) H2.out
    clear c4 c5 f5 h1 h2 q1 t1' hm
    go_region_with (go_at_call 46; refine (HM.out _).mono ?_; rintro e w3 ⟨rfl, b3⟩; have H4 := hide (Sst.below (w := W2.drew) H2.out b3); have hsv := H4.out.sv u; have R4 := hide (R2.out.trans ((Rfr.drew b W2).trans (Rfr.below (b := b) b3))); clear b3)
    all_goals
      have H5 := hide (H4.out.set4 u)
      have R5 := hide (R4.out.trans (Rfr.setCells b (qc u.list).toList 0 w3))
      generalize w3.setCells b 0 (qc u.list).toList = W5 at *
      have f4 := H5.out.frozen 4
      have g4 := H5.out.tail
      go_wp2
      go_end0
      refine ⟨rfl, ?_, R5.out.trans (Rfr.setCell b _ 4 _)⟩
      rw [HP.out]
      exact H5.out.setTail 0
  · have t1' : (((n : Int) + 1) % 8 == 0) = false := by simp; omega
    have HP : Hid (Sm.put ⟨v, t, n⟩ x = ⟨v, t1, n + 1⟩) := by
      unfold Hid Sm.put
      rw [if_neg hm, HT.out]
    have H2 := hide h2
    clear h2
    go_wp2
    go_end0
    refine ⟨rfl, ?_, R2.out⟩
    rw [HP.out]
    exact H2.out
/-- A digest behind more bytes. -/
def Sm.puts (s : Sm) (l : List UInt8) : Sm := l.foldl Sm.put s
theorem puts_n (l : List UInt8) : ∀ s : Sm, (s.puts l).n = s.n + l.length := by
  induction l with
  | nil => intro s; rfl
  | cons b r ih =>
    intro s
    show ((s.put b).puts r).n = _
    rw [ih, List.length_cons]
    have : (s.put b).n = s.n + 1 := by unfold Sm.put; split <;> rfl
    omega
theorem puts_app (s : Sm) (l r : List UInt8) : s.puts (l ++ r) = (s.puts l).puts r := List.foldl_append
theorem puts_snoc (s : Sm) (l : List UInt8) (b : UInt8) : s.puts (l ++ [b]) = (s.puts l).put b := by rw [puts_app]; rfl
theorem take_snoc (q : ByteArray) (i : Nat) (h : i < q.size) : q.data.toList.take (i + 1) = q.data.toList.take i ++ [q[i]] := by
  rw [List.take_add_one, List.getElem?_eq_getElem (by simpa using h)]
  rfl
theorem write_any6 (b : Nat) (s : Sm) (q : ByteArray) (w : World) (hs : s.n + q.size < 9223372036854775800) (h : Sat w b s) :
    Calls Tryd.prog 31 #[.pointer (some ⟨b, 0, none⟩), .string q] w fun e w' => e = .returned (.tuple #[]) ∧ Sat w' b (s.puts q.data.toList) ∧ Rfr b w w' := by
  have H0 := hide h
  clear h
  go_enter Tryd.func31, Tryd.ntmps31
  go_wp2
  go_loopw [4, 9] (fun _ c wr => ∃ i : Nat, i ≤ q.size ∧ c = .int .i64 i ∧ Hid (Sat wr b (s.puts (q.data.toList.take i))) ∧ Hid (Rfr b w wr)) (fun _ c _ => (q.size - intOf c).toNat)
  case atStart => exact ⟨0, by omega, rfl, H0, Rfr.refl _ _⟩
  case round =>
    clear H0
    obtain ⟨i, hi, rfl, J, R⟩ := hrel
    by_cases hlt : i < q.size
    · have hn := puts_n (q.data.toList.take i) s
      have hl : (q.data.toList.take i).length = i := by rw [List.length_take]; simp; omega
      rw [hl] at hn
      have b0 : (0 : Int) ≤ (i : Int) := by omega
      have b1 : (i : Int) < (q.size : Int) := by omega
      have hsn : (s.puts (q.data.toList.take i)).n < 9223372036854775800 := by omega
      have HE := hide (puts_snoc s (q.data.toList.take i) q[i])
      rw [← take_snoc q i hlt] at HE
      have HP := hide fun W hW => put_any b (s.puts (q.data.toList.take i)) q[i] W hsn hW
      clear hn hl
      go_wp2_with (go_at_call 44; refine (HP.out _ J.out).mono ?_; rintro e w1 ⟨rfl, h1, r1⟩; have H1 := hide h1; have R1 := hide (R.out.trans r1); clear h1 r1)
      exact ⟨⟨i + 1, by omega, by go_num, by rw [HE.out]; exact H1, R1⟩, by simp [intOf]; omega⟩
    · have : i = q.size := by omega
      subst this
      have e : q.data.toList.take q.size = q.data.toList := List.take_of_length_le (by simp)
      rw [e] at J
      go_wp2
      go_end0
      exact ⟨rfl, J.out, R.out⟩
theorem write_nil6 (q : ByteArray) (w : World) : Calls Tryd.prog 31 #[.pointer none, .string q] w fun e w' => e = .returned (.tuple #[]) ∧ w' = w := by
  go_enter Tryd.func31, Tryd.ntmps31
  go_wp2
  exact bodyPost_ret (v := .tuple #[]) (by simp [results, Tryd.results31, go_sem]) rfl ⟨rfl, rfl⟩
theorem sum_nil6 (w : World) : Calls Tryd.prog 32 #[.pointer none] w fun e w' => e = .returned (.int .u64 0) ∧ w' = w := by
  go_enter Tryd.func32, Tryd.ntmps32
  go_wp2
  go_ret
  exact ⟨rfl, rfl⟩
end
end Go.Proofs.YtpjpnkohagcegaaDoor
