/- A log on a disk: what a crash leaves of it; the walk of DiskKeeps. -/
import Derived.Test.YtpjpgmfcmjdkbaaDw
namespace Go.Proofs.Ytpjpgmfcmjdkbaa
open Go.RowKit
open Go.Deep
open Go.Lib
def nmL : ByteArray := ⟨#[108, 111, 103]⟩
/-- Changes that write one behind the other into the log; all that is in it then. -/
def Lg : FS → List Ch → List UInt8 → Prop
  | f, [], a => f.at (ls nmL) = a
  | f, c :: r, a => (c.kind = 0 ∧ c.name = nmL ∧ c.pos = (f.at (ls nmL)).length) ∧ Lg (doC f c) r a
theorem wr8_end (l s : List UInt8) : wr8 l l.length s = l ++ s := by
  unfold wr8
  rw [List.take_length, List.drop_of_length_le (by omega), List.append_nil]
theorem log_do {f : FS} {c : Ch} (h : c.kind = 0 ∧ c.name = nmL ∧ c.pos = (f.at (ls nmL)).length) : (doC f c).at (ls nmL) = f.at (ls nmL) ++ ls c.s := by
  obtain ⟨hk, hn, hp⟩ := h
  unfold doC
  rw [if_pos hk, hn, at_put, if_pos rfl, hp, wr8_end]
theorem Lg.pre : ∀ {l : List Ch} {f : FS} {a : List UInt8}, Lg f l a → f.at (ls nmL) <+: a
  | [], _, _, h => by rw [show _ = _ from h]; exact List.prefix_rfl
  | c :: r, f, a, h => by
    have h1 := Lg.pre h.2
    rw [log_do h.1] at h1
    exact (List.prefix_append _ _).trans h1
theorem Lg.take : ∀ {l : List Ch} {f : FS} {a : List UInt8} (k : Nat), Lg f l a → f.at (ls nmL) <+: (doL f (l.take k)).at (ls nmL) ∧ Lg (doL f (l.take k)) (l.drop k) a
  | l, f, a, 0, h => ⟨List.prefix_rfl, h⟩
  | [], f, a, k + 1, h => ⟨List.prefix_rfl, h⟩
  | c :: r, f, a, k + 1, h => by
    have h1 := Lg.take k h.2
    refine ⟨?_, h1.2⟩
    have h2 := h1.1
    rw [log_do h.1] at h2
    exact (List.prefix_append _ _).trans h2
theorem Lg.snoc : ∀ {l : List Ch} {f : FS} {a : List UInt8} {c : Ch}, Lg f l a → (c.kind = 0 ∧ c.name = nmL ∧ c.pos = a.length) → Lg f (l ++ [c]) (a ++ ls c.s)
  | [], f, a, c, h, hc => by
    have ha : f.at (ls nmL) = a := h
    refine ⟨⟨hc.1, hc.2.1, by rw [ha]; exact hc.2.2⟩, ?_⟩
    show (doC f c).at (ls nmL) = a ++ ls c.s
    rw [log_do ⟨hc.1, hc.2.1, by rw [ha]; exact hc.2.2⟩, ha]
  | _ :: r, f, a, c, h, hc => ⟨h.1, Lg.snoc (l := r) h.2 hc⟩
/-- What a fall leaves of the log. -/
theorem Lg.fall {x : St} {a : List UInt8} (h : Lg x.sure x.loose a) (keep torn : Int) : x.sure.at (ls nmL) <+: (flS x keep torn).at (ls nmL) ∧ (flS x keep torn).at (ls nmL) <+: a := by
  have h1 := h.take (kp x keep)
  unfold flS
  split
  · exact ⟨h1.1, h1.2.pre⟩
  · rename_i c hc
    split
    · rename_i ht
      have hlt : kp x keep < x.loose.length := by
        rcases Nat.lt_or_ge (kp x keep) x.loose.length with h' | h'
        · exact h'
        · rw [List.getElem?_eq_none h'] at hc
          cases hc
      have h2 := h1.2
      rw [List.drop_eq_getElem_cons hlt] at h2
      have e : x.loose[kp x keep] = c := by
        rw [List.getElem?_eq_getElem hlt] at hc
        exact Option.some.inj hc
      rw [e] at h2
      have h3 := h2.2.pre
      rw [log_do h2.1] at h3
      have h4 : (doC (doL x.sure (x.loose.take (kp x keep))) (tornC c torn)).at (ls nmL) = (doL x.sure (x.loose.take (kp x keep))).at (ls nmL) ++ ls (tornC c torn).s := log_do ⟨h2.1.1, h2.1.2.1, h2.1.2.2⟩
      rw [h4]
      refine ⟨h1.1.trans (List.prefix_append _ _), List.IsPrefix.trans ?_ h3⟩
      refine List.prefix_append_right_inj _ |>.2 ?_
      have : ls (tornC c torn).s = (ls c.s).take (min torn.toNat c.s.size) := by
        simp [tornC, ls, ByteArray.data_extract, List.extract]
      rw [this]
      exact List.take_prefix _ _
    · exact ⟨h1.1, h1.2.pre⟩
/-- A disk with a log alone. -/
structure LgD (x : St) (k : Nat) : Prop where
  vd : Vd x
  plan : x.plan = []
  dead : x.dead = false
  lg : Lg x.sure x.loose (x.now.at (ls nmL))
  room : (x.now.get (ls nmL)).isSome = true ∨ x.now.n = 0
  many : x.loose.length ≤ k
  made : x.made ≤ k
theorem LgD.x0 : LgD x0 0 := ⟨Vd.x0, rfl, rfl, rfl, .inr rfl, Nat.le_refl _, Nat.le_refl _⟩
theorem nameL : isName (ls nmL) = true := by decide +kernel
theorem LgD.rdy {x : St} {k : Nat} (h : LgD x k) : rdy x.dead [nmL] = 0 := by
  rw [h.dead]
  decide +kernel
theorem LgD.add {x : St} {k : Nat} (h : LgD x k) (hk : k ≤ 100) (s : ByteArray) (hs : (x.now.at (ls nmL)).length + s.size ≤ 16777216) : LgD (mkC x (wrC nmL (x.now.at (ls nmL)).length s)) (k + 1) ∧ (mkC x (wrC nmL (x.now.at (ls nmL)).length s)).now.at (ls nmL) = x.now.at (ls nmL) ++ ls s := by
  have hm := h.many
  have hmd := h.made
  have ok : okD x.now (wrC nmL (x.now.at (ls nmL)).length s) := wr_ok h.vd.bd nameL (Nat.le_refl _) hs (by
    rcases h.room with e | e
    · exact .inl e
    · exact .inr (by omega))
  have ea : (mkC x (wrC nmL (x.now.at (ls nmL)).length s)).now.at (ls nmL) = x.now.at (ls nmL) ++ ls s := log_do (f := x.now) (c := wrC nmL (x.now.at (ls nmL)).length s) ⟨rfl, rfl, rfl⟩
  refine ⟨⟨h.vd.mkC ok (by omega) (by omega), h.plan, h.dead, ?_, .inl ?_, ?_, ?_⟩, ea⟩
  · rw [ea]
    exact h.lg.snoc ⟨rfl, rfl, rfl⟩
  · show ((x.now.put (ls nmL) _).get (ls nmL)).isSome = true
    rw [FS.put_get, if_pos rfl]
    rfl
  · show (x.loose ++ [_]).length ≤ k + 1
    simp
    omega
  · show x.made + 1 ≤ k + 1
    omega
theorem LgD.sync {x : St} {k : Nat} (h : LgD x k) : LgD (syC x) k ∧ (syC x).sure.at (ls nmL) = x.now.at (ls nmL) := by
  have e : (syC x).sure.at (ls nmL) = x.now.at (ls nmL) := by
    show (doL x.sure x.loose).at _ = _
    rw [← h.vd.now]
  exact ⟨⟨h.vd.syC, h.plan, h.dead, e, h.room, Nat.zero_le _, h.made⟩, e⟩
theorem LgD.full {x : St} {k : Nat} (h : LgD x k) (s : ByteArray) (hs : 16777216 < (x.now.at (ls nmL)).length + s.size) : wrE x nmL (x.now.at (ls nmL)).length s = 71 := by
  unfold wrE
  rw [h.rdy, if_pos rfl, if_neg (by omega), if_pos (.inl (by omega))]
/-- A beginning of a text. -/
theorem ext_pre (A : ByteArray) (r : List UInt8) (h : r <+: ls A) : A.extract 0 r.length = ⟨r.toArray⟩ := by
  obtain ⟨t, ht⟩ := h
  apply ByteArray.ext
  rw [ByteArray.data_extract]
  apply Array.ext'
  rw [Array.toList_extract]
  have : A.data.toList = r ++ t := ht.symm
  rw [this]
  simp [List.extract]
end Go.Proofs.Ytpjpgmfcmjdkbaa
