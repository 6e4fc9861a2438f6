/- The program's calls, whatever they come to; what stays true of a disk. -/
import Derived.Test.YthnfpdmhjennlaaV32
namespace Go.Proofs.Ythnfpdmhjennlaa
open Go.RowKit
open Go.Deep
open Go.Lib
set_option linter.unusedVariables false
theorem fnd_facts {x : St} {nm : ByteArray} (h : fnd x nm = 0) : rdy x.dead [nm] = 0 ∧ (x.now.get (ls nm)).isSome = true := by
  have := fnd_some h
  exact ⟨this.2, this.1⟩
theorem wr_facts {x : St} {nm s : ByteArray} {k : Int} (h : wrE x nm k s = 0) : rdy x.dead [nm] = 0 ∧ 0 ≤ k ∧ k ≤ ((x.now.at (ls nm)).length : Int) ∧ k + s.size ≤ 16777216 ∧ ((x.now.get (ls nm)).isSome = true ∨ x.now.n < 64) := by
  unfold wrE at h
  by_cases hr : rdy x.dead [nm] = 0
  · rw [if_pos hr] at h
    by_cases h1 : k < 0 ∨ ((x.now.at (ls nm)).length : Int) < k
    · rw [if_pos h1] at h
      cases h
    · rw [if_neg h1] at h
      by_cases h2 : 16777216 - k < (s.size : Int) ∨ ((x.now.get (ls nm)).isSome = false ∧ 64 ≤ x.now.n)
      · rw [if_pos h2] at h
        cases h
      · refine ⟨hr, by omega, by omega, by omega, ?_⟩
        cases hg : (x.now.get (ls nm)).isSome
        · right
          by_cases c : 64 ≤ x.now.n
          · exact absurd (.inr ⟨hg, c⟩) h2
          · omega
        · exact .inl rfl
  · rw [if_neg hr] at h
    exact absurd h hr
theorem mv_facts {x : St} {a b : ByteArray} (h : mvE x a b = 0) : fnd x a = 0 ∧ isName (ls a) = true ∧ isName (ls b) = true := by
  unfold mvE at h
  by_cases hr : rdy x.dead [a, b] = 0
  · rw [if_pos hr] at h
    unfold rdy at hr
    cases hd : x.dead
    · rw [hd] at hr
      cases ha : isName (ls a)
      · simp [ha] at hr
      · cases hb : isName (ls b)
        · simp [hb] at hr
        · exact ⟨h, rfl, rfl⟩
    · rw [hd] at hr
      simp at hr
  · rw [if_neg hr] at h
    exact absurd h hr
section
variable {gd : Nat} {x : St} {T : Nat → Prop} {w w' : World}
theorem err_dk (h : DK w gd x T) (b : Below w.heap.size w w') : DK w' gd x (grow T w w') ∧ Fr T w w' :=
  ⟨(h.below b).grow fun g hg => Nat.lt_of_lt_of_le (h.lt g hg) b.size, Fr.of_below b⟩
theorem pwrite_all (nm : ByteArray) (k : Int) (s : ByteArray) (h : DK w gd x T) (hV : Vd x) (hP : okP x.plan) (hm : nm.size ≤ maxLen) (hs : s.size ≤ maxLen) (hk1 : -9223372036854775808 ≤ k) (hk2 : k < 9223372036854775808) (hmany : x.loose.length < 10000) (hmade : x.made < 1000000) : Calls Try.prog 8 #[.pointer (some ⟨gd, 0, none⟩), .string nm, .int .i64 k, .string s] w fun e w' => e = .returned (.int .i64 (maE x 0 nm ⟨#[]⟩ k s)) ∧ DK w' gd (maS x 0 nm ⟨#[]⟩ k s) (grow T w w') ∧ Fr T w w' := by
  unfold maE maS
  have e : rwE x 0 nm ⟨#[]⟩ k s = wrE x nm k s := rfl
  rw [e]
  by_cases he : wrE x nm k s = 0
  · rw [if_pos he, if_pos he]
    obtain ⟨h1, h2, h3, h4, h5⟩ := wr_facts he
    obtain ⟨m, rfl⟩ := Int.eq_ofNat_of_zero_le h2
    exact write_do gd x T nm m s w h hV hP h1 (by omega) (by omega) h5 hmany hmade
  · rw [if_neg he, if_neg he]
    exact (write_err gd x T nm k s w h hV.bd2 hm hs hk1 hk2 he).mono fun e w' q => ⟨q.1, err_dk h q.2⟩
theorem pappend_all (nm s : ByteArray) (h : DK w gd x T) (hV : Vd x) (hP : okP x.plan) (hm : nm.size ≤ maxLen) (hs : s.size ≤ maxLen) (hmany : x.loose.length < 10000) (hmade : x.made < 1000000) : Calls Try.prog 10 #[.pointer (some ⟨gd, 0, none⟩), .string nm, .string s] w fun e w' => e = .returned (.int .i64 (maE x 0 nm ⟨#[]⟩ (x.now.at (ls nm)).length s)) ∧ DK w' gd (maS x 0 nm ⟨#[]⟩ (x.now.at (ls nm)).length s) (grow T w w') ∧ Fr T w w' := by
  unfold maE maS
  have e : rwE x 0 nm ⟨#[]⟩ (x.now.at (ls nm)).length s = wrE x nm (x.now.at (ls nm)).length s := rfl
  rw [e]
  by_cases he : wrE x nm (x.now.at (ls nm)).length s = 0
  · rw [if_pos he, if_pos he]
    obtain ⟨h1, h2, h3, h4, h5⟩ := wr_facts he
    exact append_do gd x T nm s w h hV hP h1 (by omega) h5 hmany hmade
  · rw [if_neg he, if_neg he]
    exact (append_err gd x T nm s w h hV.bd2 hm hs he).mono fun e w' q => ⟨q.1, err_dk h q.2⟩
theorem pcut_all (nm : ByteArray) (k : Int) (h : DK w gd x T) (hV : Vd x) (hP : okP x.plan) (hm : nm.size ≤ maxLen) (hmany : x.loose.length < 10000) (hmade : x.made < 1000000) : Calls Try.prog 16 #[.pointer (some ⟨gd, 0, none⟩), .string nm, .int .i64 k] w fun e w' => e = .returned (.int .i64 (maE x 1 nm ⟨#[]⟩ k ⟨#[]⟩)) ∧ DK w' gd (maS x 1 nm ⟨#[]⟩ k ⟨#[]⟩) (grow T w w') ∧ Fr T w w' := by
  unfold maE maS
  have e : rwE x 1 nm ⟨#[]⟩ k ⟨#[]⟩ = ctE x nm k := rfl
  rw [e]
  by_cases hf : fnd x nm = 0
  · by_cases hk : k < 0 ∨ ((x.now.at (ls nm)).length : Int) < k
    · have e1 : ctE x nm k = 1 := by unfold ctE; rw [if_pos hf, if_pos hk]
      rw [e1, if_neg (by decide), if_neg (by decide)]
      exact (cut_far gd x T nm k w h hm hf hk).mono fun e w' q => ⟨q.1, err_dk h q.2⟩
    · have e1 : ctE x nm k = 0 := by unfold ctE; rw [if_pos hf, if_neg hk]
      rw [e1, if_pos rfl, if_pos rfl]
      obtain ⟨m, rfl⟩ := Int.eq_ofNat_of_zero_le (show 0 ≤ k by omega)
      exact cut_do gd x T nm m w h hV hP hf (rdy_ok (fnd_facts hf).1).2 (by omega) hmany hmade
  · have e1 : ctE x nm k = fnd x nm := by unfold ctE; rw [if_neg hf]
    rw [e1, if_neg hf, if_neg hf]
    exact (cut_find gd x T nm k w h hm hf).mono fun e w' q => ⟨q.1, err_dk h q.2⟩
theorem pmove_all (a b : ByteArray) (h : DK w gd x T) (hV : Vd x) (hL : ∃ L, Rep L x.now) (hP : okP x.plan) (hm : a.size ≤ maxLen) (hmb : b.size ≤ maxLen) (hmany : x.loose.length < 10000) (hmade : x.made < 1000000) : Calls Try.prog 17 #[.pointer (some ⟨gd, 0, none⟩), .string a, .string b] w fun e w' => e = .returned (.int .i64 (maE x 2 a b 0 ⟨#[]⟩)) ∧ DK w' gd (maS x 2 a b 0 ⟨#[]⟩) (grow T w w') ∧ Fr T w w' := by
  unfold maE maS
  have e : rwE x 2 a b 0 ⟨#[]⟩ = mvE x a b := rfl
  rw [e]
  by_cases he : mvE x a b = 0
  · rw [if_pos he, if_pos he]
    obtain ⟨h1, h2, h3⟩ := mv_facts he
    obtain ⟨L, hL⟩ := hL
    exact move_do gd x T a b w h hV hP h1 h2 h3 (hL.some_n (fnd_facts h1).2) hmany hmade
  · rw [if_neg he, if_neg he]
    exact (move_err gd x T a b w h hm hmb he).mono fun e w' q => ⟨q.1, err_dk h q.2⟩
theorem premove_all (nm : ByteArray) (h : DK w gd x T) (hV : Vd x) (hP : okP x.plan) (hm : nm.size ≤ maxLen) (hmany : x.loose.length < 10000) (hmade : x.made < 1000000) : Calls Try.prog 18 #[.pointer (some ⟨gd, 0, none⟩), .string nm] w fun e w' => e = .returned (.int .i64 (maE x 3 nm ⟨#[]⟩ 0 ⟨#[]⟩)) ∧ DK w' gd (maS x 3 nm ⟨#[]⟩ 0 ⟨#[]⟩) (grow T w w') ∧ Fr T w w' := by
  unfold maE maS
  have e : rwE x 3 nm ⟨#[]⟩ 0 ⟨#[]⟩ = fnd x nm := rfl
  rw [e]
  by_cases hf : fnd x nm = 0
  · rw [if_pos hf, if_pos hf]
    exact remove_do gd x T nm w h hV hP hf (rdy_ok (fnd_facts hf).1).2 hmany hmade
  · rw [if_neg hf, if_neg hf]
    exact (remove_err gd x T nm w h hm hf).mono fun e w' q => ⟨q.1, err_dk h q.2⟩
end
/-! ### What stays true of a disk, with n changes made at most. -/
structure Gd (x : St) (n : Nat) : Prop where
  vd : Vd x
  rep : ∃ L, Rep L x.sure
  nm : NmF x.sure
  plan : okP x.plan
  pz : x.plan.length * 32 ≤ 140737488355328
  many : x.loose.length ≤ n
  made : x.made ≤ n
theorem NmF.put {f : FS} (h : NmF f) (k l : List UInt8) (hk : k.length ≤ 32) : NmF (f.put k l) := fun q hq => by
  by_cases c : q = k
  · rw [c]; exact hk
  · refine h q ?_
    have : (f.put k l).get q = f.get q := if_neg c
    rw [← this]
    exact hq
theorem NmF.del {f : FS} (h : NmF f) (k : List UInt8) : NmF (f.del k) := fun q hq => by
  by_cases c : q = k
  · have : (f.del k).get q = none := if_pos c
    rw [this] at hq
    cases hq
  · refine h q ?_
    have : (f.del k).get q = f.get q := if_neg c
    rw [← this]
    exact hq
theorem NmF.doC {f : FS} (h : NmF f) {c : Ch} (h1 : c.name.size ≤ 32) (h2 : c.dst.size ≤ 32) : NmF (doC f c) := by
  unfold Go.Proofs.Ythnfpdmhjennlaa.doC
  have e1 : (ls c.name).length ≤ 32 := by rw [ls_len]; exact h1
  have e2 : (ls c.dst).length ≤ 32 := by rw [ls_len]; exact h2
  split
  · exact h.put _ _ e1
  · split
    · exact h.put _ _ e1
    · split
      · exact (h.del _).put _ _ e2
      · exact h.del _
theorem NmF.doL : ∀ (l : List Ch) {f : FS}, NmF f → okM f l → NmF (doL f l)
  | [], f, h, _ => h
  | c :: r, f, h, ok => NmF.doL r (h.doC ok.1.name ok.1.dst) ok.2
theorem Gd.fl {x : St} {n : Nat} (h : Gd x n) (keep torn : Int) : Gd (flC x keep torn) n := by
  refine ⟨flC_vd h.vd keep torn, ?_, ?_, h.plan, h.pz, Nat.zero_le _, h.made⟩
  · obtain ⟨L, hL⟩ := h.rep
    show ∃ L, Rep L (flS x keep torn)
    unfold flS
    obtain ⟨L1, h1⟩ := Rep.doL_ex (x.loose.take (kp x keep)) hL
    split
    · exact ⟨L1, h1⟩
    · split
      · exact h1.do_ex _
      · exact ⟨L1, h1⟩
  · show NmF (flS x keep torn)
    unfold flS
    have h1 := h.nm.doL (x.loose.take (kp x keep)) (h.vd.ok.take _)
    split
    · exact h1
    · rename_i c hc
      split
      · rename_i ht
        have ok := h.vd.ok.at_ hc
        exact h1.doC ok.name ok.dst
      · exact h1
theorem okP.erase {P : List Fl} (h : okP P) (i : Nat) : okP (P.eraseIdx i) := ⟨Nat.le_trans (List.length_eraseIdx_le _ _) h.len, fun f hf => h.keep f (List.mem_of_mem_eraseIdx hf)⟩
theorem Gd.erase {x : St} {n : Nat} (h : Gd x n) (i : Nat) : Gd { x with plan := x.plan.eraseIdx i } n :=
  ⟨⟨h.vd.ok, h.vd.now, h.vd.many, h.vd.made⟩, h.rep, h.nm, h.plan.erase i, by have := List.length_eraseIdx_le x.plan i; have := h.pz; show (x.plan.eraseIdx i).length * 32 ≤ _; omega, h.many, h.made⟩
theorem Gd.st {x y : St} {n : Nat} (h : Gd x n) {b : Bool} (hs : stS x b = some y) : Gd y n := by
  rcases st_cases x b h.plan with ⟨_, e⟩ | ⟨i, f, _, _, e, _, _⟩
  · rw [e] at hs
    cases hs
  · rw [e] at hs
    cases hs
    exact (h.erase i).fl _ _
theorem Gd.more {x : St} {n m : Nat} (h : Gd x n) (hm : n ≤ m) : Gd x m := ⟨h.vd, h.rep, h.nm, h.plan, h.pz, Nat.le_trans h.many hm, Nat.le_trans h.made hm⟩
theorem Gd.ma {x : St} {n : Nat} (h : Gd x n) (hn : n ≤ 9000) {kd : Nat} (hkd : kd ≤ 3) {nm tn s : ByteArray} {k : Int} (hz : kd ≠ 2 → tn = ⟨#[]⟩) (hsz : kd ≠ 0 → s = ⟨#[]⟩) (hk0 : 1 < kd → k = 0) : Gd (maS x kd nm tn k s) (n + 1) := by
  unfold maS
  by_cases he : rwE x kd nm tn k s = 0
  · rw [if_pos he]
    unfold doS
    cases hs : stS x false with
    | some y => exact (h.st hs).more (by omega)
    | none =>
      have hL : ∃ L, Rep L x.now := by
        obtain ⟨L, hL⟩ := h.rep
        rw [h.vd.now]
        exact Rep.doL_ex _ hL
      have h0 : 0 ≤ k := by
        by_cases c : kd ≤ 1
        · exact (rw_live hkd he).2 c
        · rw [hk0 (by omega)]
          omega
      obtain ⟨m, rfl⟩ := Int.eq_ofNat_of_zero_le h0
      have ok := (rw_okD h.vd hL hkd he hz hsz (fun c => by have := hk0 c; omega)).2
      have h1 := h.many
      have h2 := h.made
      exact ⟨h.vd.mkC ok (by omega) (by omega), h.rep, h.nm, h.plan, h.pz, by show (x.loose ++ [_]).length ≤ _; simp; omega, by show x.made + 1 ≤ _; omega⟩
  · rw [if_neg he]
    exact h.more (by omega)
theorem Gd.sn {x : St} {n : Nat} (h : Gd x n) : Gd (snS x) n := by
  unfold snS
  split
  · exact h
  · cases hs : stS x true with
    | some y => exact h.st hs
    | none =>
      obtain ⟨L, hL⟩ := h.rep
      exact ⟨h.vd.syC, Rep.doL_ex _ hL, h.nm.doL _ h.vd.ok, h.plan, h.pz, Nat.zero_le _, h.made⟩
theorem Gd.cr {x : St} {n : Nat} (h : Gd x n) (keep torn : Int) : Gd (crC x keep torn) n := by
  unfold crC
  split
  · exact h
  · exact h.fl _ _
theorem Gd.up {x : St} {n : Nat} (h : Gd x n) : Gd { x with dead := false } n := ⟨h.vd.up, h.rep, h.nm, h.plan, h.pz, h.many, h.made⟩
theorem Gd.pl {x : St} {n : Nat} (h : Gd x n) {P : List Fl} (hP : okP P) (hz : P.length * 32 ≤ 140737488355328) : Gd { x with plan := P } n := ⟨⟨h.vd.ok, h.vd.now, h.vd.many, h.vd.made⟩, h.rep, h.nm, hP, hz, h.many, h.made⟩
end Go.Proofs.Ythnfpdmhjennlaa
