/- The walk of DiskKeeps. -/
import Derived.Test.YtpjpgmfcmjdkbaaDx
namespace Go.Proofs.Ytpjpgmfcmjdkbaa
open Go.RowKit
open Go.Deep
open Go.Lib
/-- Texts in a slice. -/
def Txs (w : World) (ao : Option Addr) (n : Nat) (tx : Nat → ByteArray) : Prop := ∀ i, i < n → (tx i).size ≤ 140737488351232 ∧ ∃ g off, ao = some ⟨g, off, none⟩ ∧ g < w.heap.size ∧ w.cell? ⟨g, off + i, none⟩ = some (.string (tx i))
section
set_option maxRecDepth 10000
set_option maxHeartbeats 8000000
theorem diskKeeps_walk (ao : Option Addr) (n cap : Nat) (tx : Nat → ByteArray) (at' keep torn : Int) (w : World) (hn : n ≤ 9223372036854775807) (hx : Txs w ao n tx) (hk1 : -9223372036854775808 ≤ keep) (hk2 : keep < 9223372036854775808) : Calls Try.prog 4 #[.slice ao n cap, .agg #[.int .i64 at', .int .i64 keep, .int .i64 torn]] w fun e w' => e = .returned (.bool true) ∧ Below w.heap.size w w' := by
  have hn' : (n : Int) ≤ 9223372036854775807 := by omega
  clear hn
  have HX := hide hx
  have HKP := hide (And.intro hk1 hk2)
  have HN := hide fun W => new_any W
  have HAw := hide fun W => awake_any W
  clear hx hk1 hk2
  go_enter Try.func4, Try.ntmps4
  go_upto_region 1 with fail
  go_quiet (fail)
  have B1 : Hid (Below w.heap.size w ((w.alloc (.cells #[.int .i64 at', .int .i64 keep, .int .i64 torn] 39)).drewN nq)) := below_drewN ((Below.refl _ _).alloc (Nat.le_refl _) _) _
  generalize (w.alloc (.cells #[.int .i64 at', .int .i64 keep, .int .i64 torn] 39)).drewN nq = w1 at *
  go_wp2_with (first | (go_at_call 7; refine (HN.out _).mono ?_; rintro e w2 ⟨rfl, hd, hb⟩; have J1 : Hid (DB w w2 w1.heap.size x0 (fun g => g = w1.heap.size)) := ⟨hd, B1.out.trans (hb.mono B1.out.size), fun g hg => by rw [hg]; exact B1.out.size⟩; clear hd hb) | (go_at_call 8; refine (HAw.out _).mono ?_; rintro e w3 ⟨rfl, hb⟩; have J2 := hide (J1.out.next hb); clear hb J1))
  generalize w1.heap.size = gd at *
  go_loopw [9, 10, 11] (fun su al i wr => ∃ (k : Nat) (x : St) (T : Nat → Prop) (A U : ByteArray), k ≤ 30 ∧ k ≤ n ∧ i = .int .i64 k ∧ al = .string A ∧ su = .string U ∧ Hid (ls A = x.now.at (ls nmL)) ∧ Hid (ls U = x.sure.at (ls nmL)) ∧ Hid (LgD x k) ∧ Hid (DB w wr gd x T)) (fun _ _ i _ => (30 - intOf i).toNat)
  case atStart => exact ⟨0, x0, _, ⟨#[]⟩, ⟨#[]⟩, by omega, by omega, rfl, rfl, rfl, rfl, rfl, LgD.x0, J2⟩
  case round =>
    clear J2 HN HAw B1
    obtain ⟨k, x, T, A, U, hk30, hkn, rfl, rfl, rfl, hA, hU, L, J⟩ := hrel
    have hAl : A.size = (x.now.at (ls nmL)).length := by
      rw [← hA.out]
      simp
    have hAb : (A.size : Int) ≤ 16777216 := by
      have := L.out.vd.bd.len (ls nmL)
      omega
    by_cases hc : (k : Int) < n ∧ (k : Int) < 30 ∧ (A.size : Int) < 100000
    · obtain ⟨c1, c2, c3⟩ := hc
      have c0 : (0 : Int) ≤ k := by omega
      obtain ⟨hts, g, off, rfl, hg, hcell⟩ := HX.out k (by omega)
      generalize tx k = t at *
      have t0 : (t.size : Int) ≤ 140737488351232 := by omega
      have CL : Hid (∀ W, Below w.heap.size w W → W.cell? ⟨g, off + k, none⟩ = some (.string t)) := fun W hb => (hb.cell (p := ⟨g, off + k, none⟩) hg).trans hcell
      have q0 := CL.out _ J.out.bel
      by_cases hfit : A.size + t.size ≤ 16777216
      · have hfit' : (x.now.at (ls nmL)).length + t.size ≤ 16777216 := by omega
        have HA : Hid (Calls Try.prog 11 #[.pointer (some ⟨gd, 0, none⟩), .string ⟨#[108, 111, 103]⟩, .string t] wr fun e w' => e = .returned (.int .i64 0) ∧ DK w' gd (mkC x (wrC nmL (x.now.at (ls nmL)).length t)) (grow T wr w') ∧ Fr T wr w') :=
          append_ok gd x T nmL t wr J.out.dk L.out.vd L.out.plan L.out.rdy hfit' (by
            rcases L.out.room with e | e
            · exact .inl e
            · exact .inr (by omega)) (by have := L.out.many; omega) (by have := L.out.made; omega)
        have L2 := hide (L.out.add (by omega) t hfit')
        have hAt : Hid (ls (A ++ t) = (mkC x (wrC nmL (x.now.at (ls nmL)).length t)).now.at (ls nmL)) := by
          show _ = _
          rw [L2.out.2, ← hA.out]
          simp [ls]
        have hU2 : Hid (ls U = (mkC x (wrC nmL (x.now.at (ls nmL)).length t)).sure.at (ls nmL)) := hU.out
        generalize mkC x (wrC nmL (x.now.at (ls nmL)).length t) = x2 at *
        have HS := hide fun T W h => sync_ok gd x2 T W h L2.out.1.vd L2.out.1.plan L2.out.1.dead
        clear hcell hts hfit hfit' hAl hk30 hkn
        have hk31 : k + 1 ≤ 30 ∧ k + 1 ≤ n := by omega
        have HK31 := hide hk31
        clear hk31
        by_cases hat : (k : Int) = at'
        · subst hat
          have L3 := hide L2.out.1.sync
          have hA3 : Hid (ls (A ++ t) = (syC x2).now.at (ls nmL)) := hAt.out
          have hU3 : Hid (ls (A ++ t) = (syC x2).sure.at (ls nmL)) := by
            show _ = _
            rw [L3.out.2]
            exact hAt.out
          generalize syC x2 = x3 at *
          go_wp2_with (first | (go_at_call 11; refine HA.out.mono ?_; rintro e w5 ⟨rfl, hd⟩; have J5 := hide (J.out.step hd); have q5 := CL.out _ J5.out.bel; clear hd J) | (go_at_call 12; refine (HS.out _ _ J5.out.dk).mono ?_; rintro e w6 ⟨rfl, hd⟩; have J6 := hide (J5.out.step hd); clear hd J5))
          exact ⟨⟨k + 1, x3, _, A ++ t, A ++ t, HK31.out.1, HK31.out.2, by go_num, rfl, rfl, hA3, hU3, L3.out.1, J6⟩, by simp [intOf]; omega⟩
        · have hat' : ((k : Int) == at') = false := by simpa using hat
          go_wp2_with (first | (go_at_call 11; refine HA.out.mono ?_; rintro e w5 ⟨rfl, hd⟩; have J5 := hide (J.out.step hd); have q5 := CL.out _ J5.out.bel; clear hd J))
          exact ⟨⟨k + 1, x2, _, A ++ t, U, HK31.out.1, HK31.out.2, by go_num, rfl, rfl, hAt, hU2, L2.out.1, J5⟩, by simp [intOf]; omega⟩
      · have hfull := L.out.full t (by omega)
        have HA : Hid (Calls Try.prog 11 #[.pointer (some ⟨gd, 0, none⟩), .string ⟨#[108, 111, 103]⟩, .string t] wr fun e w' => e = .returned (.int .i64 71) ∧ Below wr.heap.size wr w') := by
          have := append_err gd x T nmL t wr J.out.dk L.out.vd.bd (by decide) (by unfold maxLen; omega) (by rw [hfull]; decide)
          rw [hfull] at this
          exact this
        have hgt : (16777216 : Int) < (A.size : Int) + t.size := by omega
        clear hcell hts hfit hAl hfull hk30 hkn
        go_wp2_with (first | (go_at_call 11; refine HA.out.mono ?_; rintro e w5 ⟨rfl, hb⟩; have J5 := hide (J.out.next hb); have q5 := CL.out _ J5.out.bel; clear hb J))
        go_ret
        exact ⟨rfl, J5.out.bel⟩
    · have hcs : ¬ (k : Int) < n ∨ ((k : Int) < n ∧ ¬ (k : Int) < 30) ∨ ((k : Int) < n ∧ (k : Int) < 30 ∧ ¬ (A.size : Int) < 100000) := by omega
      rcases hcs with c1 | ⟨c1, c2⟩ | ⟨c1, c2, c3⟩
      all_goals
        clear hc hk30 hkn hAl
        have HCr := hide (crash_any gd x T keep torn wr J.out.dk L.out.vd HKP.out.1 HKP.out.2)
        rw [show crC x keep torn = flC x keep torn by unfold crC; rw [L.out.dead]; rfl] at HCr
        have HUp := hide fun T W h => up_any gd (flC x keep torn) T W h
        rw [show (flC x keep torn).dead = true from rfl] at HUp
        have HRd := hide fun T W h => read_any gd { flC x keep torn with dead := false } T nmL W h (by decide)
        have hf : fnd { flC x keep torn with dead := false } nmL = if ((flS x keep torn).get (ls nmL)).isSome then 0 else 2 := by
          unfold fnd
          rw [if_pos (show rdy false [nmL] = 0 by decide +kernel)]
          rfl
        have hpre := L.out.lg.fall keep torn
        rw [hf] at HRd
        rw [show ({ flC x keep torn with dead := false } : St).now = flS x keep torn from rfl] at HRd
        cases hsome : ((flS x keep torn).get (ls nmL)).isSome
        · rw [hsome, if_neg (by decide), if_neg (by decide)] at HRd
          have hU : U = ⟨#[]⟩ := by
            have h0 : (flS x keep torn).at (ls nmL) = [] := by
              unfold FS.at
              cases hg : (flS x keep torn).get (ls nmL)
              · rfl
              · rw [hg] at hsome
                cases hsome
            have h1 := hpre.1
            rw [h0, ← hU.out, List.prefix_nil] at h1
            apply ByteArray.ext
            apply Array.ext'
            exact h1
          subst hU
          clear hsome hpre hf
          unfold nmL at HRd
          go_wp2_with (first | (go_at_call 13; refine HCr.out.mono ?_; rintro e w5 ⟨⟨r, rfl⟩, hd⟩; have J5 := hide (J.out.step hd); clear hd) | (go_at_call 14; refine (HUp.out _ _ J5.out.dk).mono ?_; rintro e w6 ⟨rfl, hd, hf, hz⟩; have J6 := hide (J5.out.up ⟨hd, hf⟩); clear hd hf hz J5) | (go_at_call 15; refine (HRd.out _ _ J6.out.dk).mono ?_; rintro e w7 ⟨rfl, hb⟩; have J7 := hide (J6.out.next hb); clear hb J6))
          go_ret
          exact ⟨rfl, J7.out.bel⟩
        · rw [hsome, if_pos rfl, if_pos rfl] at HRd
          generalize hr : (flS x keep torn).at (ls nmL) = r at *
          have hrl : (⟨r.toArray⟩ : ByteArray).size = r.length := by simp [ByteArray.size]
          have hA' := hpre.2
          rw [← hA.out] at hA'
          have hU' := hpre.1
          rw [← hU.out] at hU'
          have he := ext_pre A r hA'
          have l1 : (U.size : Int) ≤ (⟨r.toArray⟩ : ByteArray).size := by
            have := hU'.length_le
            simp at this
            rw [hrl]
            omega
          have l2 : ((⟨r.toArray⟩ : ByteArray).size : Int) ≤ A.size := by
            have := hA'.length_le
            simp at this
            rw [hrl]
            omega
          rw [← hrl] at he
          generalize (⟨r.toArray⟩ : ByteArray) = Rb at *
          clear hsome hpre hf hA' hU' hrl hr
          unfold nmL at HRd
          go_wp2_with (first | (go_at_call 13; refine HCr.out.mono ?_; rintro e w5 ⟨⟨r, rfl⟩, hd⟩; have J5 := hide (J.out.step hd); clear hd) | (go_at_call 14; refine (HUp.out _ _ J5.out.dk).mono ?_; rintro e w6 ⟨rfl, hd, hf, hz⟩; have J6 := hide (J5.out.up ⟨hd, hf⟩); clear hd hf hz J5) | (go_at_call 15; refine (HRd.out _ _ J6.out.dk).mono ?_; rintro e w7 ⟨rfl, hb⟩; have J7 := hide (J6.out.next hb); clear hb J6))
          go_ret
          exact ⟨rfl, J7.out.bel⟩
end
end Go.Proofs.Ytpjpgmfcmjdkbaa
