/- A copy of all files. A disk: its cells, its files, its loose changes; and its small calls. The contracts of ready, find, Read, Size and Up. The contracts of find, Read, Size and Up. -/
import Derived.Test.YtppooipamibhoaaGreatDoorX11
namespace Go.Proofs.YtppooipamibhoaaGreatDoor
open Go.RowKit
open Go.Deep
open Go.Lib
open Go.Maps
open Go.MapKept Go.ChangeMaps Go.WideElems
/-- The names of a map. -/
theorem Mp.names {w : World} {b n : Nat} {F : List UInt8 → Option Value} (h : Mp w b F n) : ∃ ks : List Lit, ks.Nodup ∧ ks.length = n ∧ ∀ x, x ∈ ks ↔ ∃ k, x = .string k ∧ (F k).isSome = true := by
  obtain ⟨D, ho, hh, _, hs⟩ := h.ex
  obtain ⟨es, hD, hp, _⟩ := ho.entries lawS
  obtain ⟨es0, clock, _, Ft, _, hD0⟩ := ho
  have hk : ∀ p ∈ es, ∃ k, p.1 = .string k := fun p hp => by
    rw [hD] at hD0
    injection hD0 with hD0
    rw [hD0] at hp
    obtain ⟨v, hv⟩ := Maps.fit_keys Ft p (mem_sorted.1 hp)
    obtain ⟨s, _, hs, _⟩ := keyS_inv hv
    exact ⟨_, hs⟩
  refine ⟨es.map (·.1), ?_, ?_, fun x => ?_⟩
  · rw [List.nodup_iff_pairwise_ne, List.pairwise_map]
    exact hp
  · rw [List.length_map, ← hs, hD]
    rfl
  · rw [List.mem_map]
    constructor
    · rintro ⟨p, hpe, rfl⟩
      obtain ⟨k, hk'⟩ := hk p hpe
      refine ⟨k, hk', ?_⟩
      rw [← hh, hD, Maps.has_eq, List.any_eq_true]
      exact ⟨p, hpe, by rw [hk']; exact WideAt.sameKey_self trivial⟩
    · rintro ⟨k, rfl, hF⟩
      rw [← hh, hD, Maps.has_eq, List.any_eq_true] at hF
      obtain ⟨p, hpe, hsk⟩ := hF
      exact ⟨p, hpe, WideAt.sameKey_eq hsk⟩
/-- A map of no other names is no larger. -/
theorem Mp.size_le {w w' : World} {b b' n n' : Nat} {F F' : List UInt8 → Option Value} (h : Mp w b F n) (h' : Mp w' b' F' n') (e : ∀ k, (F k).isSome = true → (F' k).isSome = true) : n ≤ n' := by
  obtain ⟨ks, n1, l1, m1⟩ := h.names
  obtain ⟨ks', n2, l2, m2⟩ := h'.names
  rw [← l1, ← l2]
  refine n1.length_le_of_subset fun x hx => ?_
  obtain ⟨k, h1, h2⟩ := (m1 x).1 hx
  exact (m2 x).2 ⟨k, h1, e k h2⟩
/-- Two maps of the same names are of one size. -/
theorem Mp.size_eq {w w' : World} {b b' n n' : Nat} {F F' : List UInt8 → Option Value} (h : Mp w b F n) (h' : Mp w' b' F' n') (e : ∀ k, (F k).isSome = (F' k).isSome) : n = n' :=
  Nat.le_antisymm (h.size_le h' fun k hk => by rw [← e]; exact hk) (h'.size_le h fun k hk => by rw [e]; exact hk)
theorem Fq.weak {w : World} {b : Nat} {F : List UInt8 → Option Value} {f : FS} {S : Nat → Prop} (h : Fs w b F f S) (X : List UInt8 → Prop) : Fq X w b F f S :=
  ⟨h.mp, h.dom, fun k v l _ => h.own k v l (fun e => e), fun k v g _ => h.ins k v g (fun e => e), fun k k' v v' g _ _ => h.one k k' v v' g (fun e => e) (fun e => e), h.self, h.lt⟩
theorem make_some (n : Int) (w : World) : (Instr.makeMap 230 (some (.int .i64 n))).run Tryz.prog w = .ok (.map (some w.heap.size)) (w.alloc (.map #[] 0)) := by
  unfold Instr.makeMap
  simp [run_underlying Tryz.underlying230, asInt, newObj]
  rfl
theorem grownBy_of_below {w w' : World} (h : Below w.heap.size w w') : w.grownBy w' none := ⟨h.os, h.tape, h.output, h.size, fun k hk _ => h.block k hk⟩
/-- A copy under way: what is copied is all that is not left. -/
structure Cp (w wr : World) (b : Nat) (f : FS) (D : DataW Unit) (left : Lit → Bool) (F2 : List UInt8 → Option Value) (f2 : FS) : Prop where
  fs : Fs wr w.heap.size F2 f2 (fun g => w.heap.size ≤ g ∧ g < wr.heap.size ∧ g ≠ w.heap.size + 1)
  get : ∀ k, f2.get k = if Maps.has D (.string k) && !left (.string k) then f.get k else none
  bel : Below w.heap.size w wr
  n : f2.n ≤ f.n
section
set_option maxRecDepth 10000
set_option maxHeartbeats 4000000
theorem cloneD_any (b : Nat) (F : List UInt8 → Option Value) (f : FS) (S : Nat → Prop) (w : World) (h : Fs w b F f S) (hn : f.n < 1000000) (hl : ∀ k, (f.at k).length ≤ 140737488355328) : Calls Tryz.prog 200 #[.map (some b)] w fun e w' => ∃ b2 F2, e = .returned (.map (some b2)) ∧ Fs w' b2 F2 f (fun g => w.heap.size ≤ g ∧ g < w'.heap.size) ∧ Below w.heap.size w w' := by
  obtain ⟨D, ho, hh, ha, hs⟩ := h.mp.ex
  have hlen := h.mp.len
  have hmk := make_some f.n
  have hB : Below w.heap.size w (w.alloc (.map #[] 0)) := (Below.refl _ _).alloc (Nat.le_refl _) _
  have ho1 := hide (ho.alloc (.map #[] 0))
  have HH := hide h
  have HD := hide (And.intro hh (And.intro ha hs))
  have HN := hide (And.intro hn hl)
  have HB := hide hB
  clear h ho hh ha hs hn hl hB
  go_enter Tryz.func200, Tryz.ntmps200
  go_wp2_with (first | (at_range; refine wpList_range_own _ rfl _ 230 rfl 9 258 lawS Tryz.underlying230 _ b f.n D rfl ho1.out ?_; intro w0 hrg0 hg0 hs0))
  go_frame
  have hz1 : (w.alloc (.map #[] 0)).heap.size = w.heap.size + 1 := by simp
  rw [hz1] at hrg0 hs0 ⊢
  have C0 : Hid (Cp w w0 b f D (Maps.has D) (fun _ => none) FS.none) := by
    have hbl : Below w.heap.size w w0 := HB.out.trans ⟨hg0.os, hg0.tape, hg0.output, hg0.size, fun k hk => hg0.block k (by omega) (by simp)⟩
    refine ⟨⟨(Mp.made w).of_block (hg0.block _ (by omega) (by simp)), fun _ => rfl, fun k v l _ hv => (by cases hv), fun k v g _ hv => (by cases hv), fun k k' v v' g _ _ hv => (by cases hv), ⟨Nat.le_refl _, by omega, by omega⟩, fun g hg => hg.2.1⟩, fun k => ?_, hbl, Nat.zero_le _⟩
    cases Maps.has D (.string k) <;> rfl
  have RG0 := hide hrg0
  clear hrg0 hg0 hs0 hz1 hlen hmk ho1 HB
  go_loopw [11] (fun _ wr => ∃ left cnt F2 f2, Hid (wr.ranges Tryz.prog 9 slE b (w.heap.size + 1) f.n D left cnt) ∧ Hid (Cp w wr b f D left F2 f2)) (fun _ wr => wr.rangeLeft b (w.heap.size + 1))
  case atStart => exact ⟨_, _, _, _, RG0, C0⟩
  case round =>
    clear RG0 C0
    obtain ⟨left, cnt, F2, f2, RG, C2⟩ := hrel
    rcases RG.out.next lawS 0 with ⟨h0, hl0, hrun⟩ | ⟨key, v, kl, y, w1, cnt1, hkey, hlk, hv, hat, hrun, hrg1, hlt, hg1, hs1, hen⟩
    · go_wp2
      go_ret
      have e : f2 = f := by
        have hget : ∀ k, f2.get k = f.get k := fun k => by
          rw [C2.out.get, hl0, HD.out.1, HH.out.dom]
          cases hk : f.get k <;> simp
        have hn := C2.out.fs.mp.size_eq HH.out.mp fun k => by rw [C2.out.fs.dom, HH.out.dom, hget]
        cases f2
        cases f
        congr
        funext k
        exact hget k
      have c2 := C2.out
      rw [e] at c2
      exact ⟨_, _, rfl, c2.fs.wide (fun g hg => ⟨hg.1, hg.2.1⟩) (fun g hg => hg.2), c2.bel⟩
    · obtain ⟨s, rfl, rfl, hsm⟩ := keyS_inv hkey
      have hhas : Maps.has D (.string s.data.toList) = true := Maps.has_true_of_atKey hat
      have hFs : (F s.data.toList).isSome = true := by rw [← HD.out.1]; exact hhas
      obtain ⟨v0, hv0⟩ := Option.isSome_iff_exists.1 hFs
      obtain ⟨y0, hy0, hat0⟩ := HD.out.2.1 _ _ hv0
      have hvv : v = v0 := by
        obtain ⟨y1, y2⟩ := y
        have e1 := hat (.agg [])
        rw [hat0] at e1
        simp only at e1
        subst e1
        exact slE_inj hv hy0
      subst hvv
      obtain ⟨l, hl⟩ := Option.isSome_iff_exists.1 (by rw [← HH.out.dom]; exact hFs : (f.get s.data.toList).isSome = true)
      have hB1 : Below w.heap.size w w1 := C2.out.bel.trans ⟨hg1.os, hg1.tape, hg1.output, hg1.size, fun k hk => hg1.block k (by have := C2.out.bel.size; omega) (by intro e; cases e; omega)⟩
      have O1 : Own w1 v l := (HH.out.own _ _ _ (fun e => e) hv0 hl).of_block fun g hg => hB1.block g (HH.out.lt g (HH.out.ins _ _ g (fun e => e) hv0 hg))
      have f21 : Fs w1 w.heap.size F2 f2 (fun g => w.heap.size ≤ g ∧ g < wr.heap.size ∧ g ≠ w.heap.size + 1) := C2.out.fs.frame (by omega) fun g hg => hg1.block g hg.2.1 (by intro e; cases e; exact hg.2.2 rfl)
      have hll : l.length ≤ 140737488355328 := by
        have := HN.out.2 s.data.toList
        rwa [FS.at, hl] at this
      have HC := hide (cloneB_any v l w1 O1 hll)
      have PT : Hid (∀ w2 v', Own w2 v' l → Below w1.heap.size w1 w2 → (∀ g, v'.ownBlock = some g → w1.heap.size ≤ g) → ∃ w3, (Instr.mapUpdate 230 (.map (some w.heap.size)) (.string s) v').run Tryz.prog w2 = .ok () w3 ∧ w3.rangeLeft b (w.heap.size + 1) < wr.rangeLeft b (w.heap.size + 1) ∧ ∃ left cnt F2 f2, Hid (w3.ranges Tryz.prog 9 slE b (w.heap.size + 1) f.n D left cnt) ∧ Hid (Cp w w3 b f D left F2 f2)) := fun w2 v' o2 b2 far2 => by
        have hz := C2.out.bel.size
        have hz2 := b2.size
        have fq : Fq (fun x => x = s.data.toList) w2 w.heap.size F2 f2 (fun g => w.heap.size ≤ g ∧ g < w2.heap.size ∧ g ≠ w.heap.size + 1) := ((f21.below b2).wide (fun g hg => ⟨hg.1, by omega, hg.2.2⟩) (fun g hg => hg.2.1)).weak _
        have hr1 := RG.out.lt
        obtain ⟨w3, hr3, f3, g3, z3⟩ := fq.put rfl (by have := HN.out.1; have := C2.out.n; unfold maxLen; omega) hsm o2 (fun g hg => ⟨by have := far2 g hg; omega, o2.ltb hg, by have := far2 g hg; omega⟩) (fun k' v'' g hk' hF2 hg e => by
          have h1 := (f21.ins k' v'' g (fun e => e) hF2 hg).2.1
          have h2 := far2 g e
          omega)
        have rg2 : w2.ranges Tryz.prog 9 slE b (w.heap.size + 1) f.n D (fun x => left x && !x.sameKey (.string s.data.toList)) cnt1 := hrg1.kept (grownBy_of_below b2) (by simp) (by simp)
        have hbw := HH.out.mp.lt
        have rg3 := rg2.kept g3 (by intro e; injection e with e; omega) (by intro e; injection e with e; omega)
        refine ⟨w3, hr3, by rw [rg3.left_eq, RG.out.left_eq]; exact hlt, _, _, _, _, rg3, ⟨f3.wide (fun g hg => ⟨hg.1, by omega, hg.2.2⟩) (fun g hg => hg.2.1), fun k => ?_, ?_, ?_⟩⟩
        · rw [FS.put_get]
          by_cases hk : k = s.data.toList
          · have hsk : (Lit.string s.data.toList).sameKey (.string s.data.toList) = true := WideAt.sameKey_self trivial
            rw [if_pos hk, hk, hhas, hsk, hl]
            simp
          · rw [if_neg hk, C2.out.get, Maps.sameKey_ne (str_ne hk)]
            simp
        · exact (hB1.trans (b2.mono (by omega))).trans ⟨g3.os, g3.tape, g3.output, g3.size, fun k hk => g3.block k (by omega) (by intro e; cases e; omega)⟩
        · show (f2.put s.data.toList l).n ≤ f.n
          exact f3.mp.size_le HH.out.mp fun k hk => by
            rw [f3.dom, FS.put_get] at hk
            rw [HH.out.dom]
            by_cases hks : k = s.data.toList
            · rw [hks, hl]
              rfl
            · rw [if_neg hks, C2.out.get] at hk
              cases hf : f.get k
              · rw [hf] at hk
                split at hk <;> cases hk
              · rfl
      clear hat hat0 hy0 hv hhas hFs hv0 hl hB1 O1 f21 hll hlk hrg1 hlt hg1 hs1 hkey
      go_wp2_with (first | (go_at_call 272; refine HC.out.mono ?_; rintro e w2 ⟨v', rfl, o2, b2, far2⟩; obtain ⟨w3, hr3, hm3, hrel3⟩ := PT.out w2 v' o2 b2 far2; have REL := hide hrel3; have MS := hide hm3; clear hrel3 hm3 o2 b2 far2))
      exact ⟨REL.out, MS.out⟩
end
end Go.Proofs.YtppooipamibhoaaGreatDoor
namespace Go.Proofs.YtppooipamibhoaaGreatDoor
open Go.RowKit
open Go.Deep
open Go.Lib
/-- A fall that a plan lays. -/
structure Fl where
  pos : Int
  keep : Int
  torn : Int
  sync : Bool
/-- What a disk is. -/
structure StD where
  now : FS
  sure : FS
  loose : List Ch
  made : Nat
  plan : List Fl
  dead : Bool
/-- Files within their bounds. -/
structure BdD (f : FS) : Prop where
  n : f.n ≤ 64
  len : ∀ k, (f.at k).length ≤ 16777216
/-- A change that a disk makes. -/
structure okD (f : FS) (c : Ch) : Prop where
  kind : c.kind ≤ 3
  name : c.name.size ≤ 32
  dst : c.dst.size ≤ 32
  pos : c.kind ≤ 1 → c.pos ≤ (f.at (lsD c.name)).length
  len : c.s.size ≤ 16777216
  bd : BdD f
  bd' : BdD (doC f c)
theorem okD.ok {f : FS} {c : Ch} (h : okD f c) : okC f c :=
  ⟨h.kind, by have := h.name; unfold maxLen; omega, by have := h.dst; unfold maxLen; omega, h.pos, by have := h.bd.len (lsD c.name); have := h.len; omega, by have := h.bd.n; unfold maxLen; omega⟩
/-- Changes that a disk made, one behind the other. -/
def okM : FS → List Ch → Prop
  | f, [] => BdD f
  | f, c :: r => okD f c ∧ okM (doC f c) r
theorem okM.okL : ∀ {l : List Ch} {f : FS}, okM f l → okL f l
  | [], _, _ => trivial
  | _ :: _, _, h => ⟨h.1.ok, okM.okL h.2⟩
theorem okM.bd : ∀ {l : List Ch} {f : FS}, okM f l → BdD f
  | [], _, h => h
  | _ :: _, _, h => h.1.bd
theorem okM.take : ∀ {l : List Ch} {f : FS} (k : Nat), okM f l → okM f (l.take k)
  | [], _, k, h => by simpa using h
  | _ :: _, _, 0, h => h.1.bd
  | _ :: _, _, k + 1, h => ⟨h.1, okM.take k h.2⟩
theorem okM.end_ : ∀ {l : List Ch} {f : FS}, okM f l → BdD (doL f l)
  | [], _, h => h
  | _ :: r, _, h => okM.end_ (l := r) h.2
theorem okM.at_ : ∀ {l : List Ch} {f : FS} {k : Nat} {c : Ch}, okM f l → l[k]? = some c → okD (doL f (l.take k)) c
  | [], _, _, _, _, h => by simp at h
  | x :: r, f, 0, c, hl, h => by
    simp at h
    subst h
    exact hl.1
  | x :: r, f, k + 1, c, hl, h => by
    simp at h
    exact okM.at_ (l := r) (f := doC f x) hl.2 h
theorem okM.snoc : ∀ {l : List Ch} {f : FS} {c : Ch}, okM f l → okD (doL f l) c → okM f (l ++ [c])
  | [], _, _, _, hc => ⟨hc, hc.bd'⟩
  | _ :: r, _, _, h, hc => ⟨h.1, okM.snoc (l := r) h.2 hc⟩
/-- What a disk holds by itself. -/
structure Vd (x : StD) : Prop where
  ok : okM x.sure x.loose
  now : x.now = doL x.sure x.loose
  many : x.loose.length ≤ 10000
  made : x.made ≤ 1000000
/-- The cells of changes. -/
def chs (l : List Ch) : List Value := l.flatMap fun c => (chv c).toList
theorem chs_len (l : List Ch) : (chs l).length = l.length * 5 := by
  induction l with
  | nil => rfl
  | cons c r ih =>
    show ((chv c).toList ++ chs r).length = _
    rw [List.length_append, ih, chv_len, List.length_cons]
    omega
def flv (f : Fl) : List Value := [.int .i64 f.pos, .int .i64 f.keep, .int .i64 f.torn, .bool f.sync]
def fls (l : List Fl) : List Value := l.flatMap flv
/-- The cells of a disk. -/
def dc (mn ms : Option Nat) (vo vp : Value) (made : Nat) (dead : Bool) (i : Nat) : Value :=
  if i = 0 then .map mn else if i = 1 then .map ms else if i = 2 then vo else if i = 3 then .int .i64 (made : Int) else if i = 4 then vp else .bool dead
/-- A disk at block gd, by its parts. -/
structure DP (w : World) (gd : Nat) (x : StD) (T S1 S2 : Nat → Prop) (mn ms : Option Nat) (vo vp : Value) : Prop where
  row : w.rowIs gd 233 6 (dc mn ms vo vp x.made x.dead)
  now : FsO w mn x.now S1
  sure : FsO w ms x.sure S2
  loose : w.ownsRow 0 327 5 vo x.loose.length (chs x.loose)
  plan : w.ownsRow 0 114 4 vp x.plan.length (fls x.plan)
  tg : T gd
  t1 : ∀ g, S1 g → T g
  t2 : ∀ g, S2 g → T g
  tl : ∀ g, vo.ownBlock = some g → T g
  tp : ∀ g, vp.ownBlock = some g → T g
  apart : ∀ g, S1 g → ¬ S2 g
  d1 : ¬ S1 gd
  d2 : ¬ S2 gd
  l1 : ∀ g, vo.ownBlock = some g → ¬ S1 g ∧ ¬ S2 g ∧ g ≠ gd
  p1 : ∀ g, vp.ownBlock = some g → ¬ S1 g ∧ ¬ S2 g ∧ g ≠ gd
  lt : ∀ g, T g → g < w.heap.size
/-- A disk at block gd, its memory within T. -/
def DK (w : World) (gd : Nat) (x : StD) (T : Nat → Prop) : Prop := ∃ S1 S2 mn ms vo vp, DP w gd x T S1 S2 mn ms vo vp
section
variable {w w' : World} {gd : Nat} {x : StD} {T T' S S1 S2 : Nat → Prop} {mn ms : Option Nat} {vo vp : Value}
theorem FsO.frame {m : Option Nat} {f : FS} (h : FsO w m f S) (hs : w.heap.size ≤ w'.heap.size) (e : ∀ g, S g → w'.heap[g]? = w.heap[g]?) : FsO w' m f S := by
  rcases h with h | ⟨b, F, hm, h⟩
  · exact .inl h
  · exact .inr ⟨b, F, hm, h.frame hs e⟩
theorem rowsOf {e : TypeId} {size n : Nat} {v : Value} {xs : List Value} {base : Nat} (h : w.ownsRow base e size v n xs) (e' : ∀ g, v.ownBlock = some g → w'.heap[g]? = w.heap[g]?) : w'.ownsRow base e size v n xs := by
  refine ⟨h.1, ?_⟩
  rcases h.2 with hn | ⟨g, cap, cur, rfl, hb, hg, r⟩
  · exact .inl hn
  · exact .inr ⟨g, cap, cur, rfl, hb, (e' g rfl).trans hg, r⟩
theorem DP.frame (h : DP w gd x T S1 S2 mn ms vo vp) (hs : w.heap.size ≤ w'.heap.size) (e : ∀ g, T g → w'.heap[g]? = w.heap[g]?) : DP w' gd x T S1 S2 mn ms vo vp :=
  ⟨World.rowIs.of_block h.row (e _ h.tg), h.now.frame hs fun g hg => e g (h.t1 g hg), h.sure.frame hs fun g hg => e g (h.t2 g hg), rowsOf h.loose fun g hg => e g (h.tl g hg), rowsOf h.plan fun g hg => e g (h.tp g hg), h.tg, h.t1, h.t2, h.tl, h.tp, h.apart, h.d1, h.d2, h.l1, h.p1, fun g hg => Nat.lt_of_lt_of_le (h.lt g hg) hs⟩
theorem DP.below (h : DP w gd x T S1 S2 mn ms vo vp) (hb : Below w.heap.size w w') : DP w' gd x T S1 S2 mn ms vo vp :=
  h.frame hb.size fun g hg => hb.block g (h.lt g hg)
theorem DP.wide (h : DP w gd x T S1 S2 mn ms vo vp) (hs : ∀ g, T g → T' g) (hl : ∀ g, T' g → g < w.heap.size) : DP w gd x T' S1 S2 mn ms vo vp :=
  ⟨h.row, h.now, h.sure, h.loose, h.plan, hs _ h.tg, fun g hg => hs g (h.t1 g hg), fun g hg => hs g (h.t2 g hg), fun g hg => hs g (h.tl g hg), fun g hg => hs g (h.tp g hg), h.apart, h.d1, h.d2, h.l1, h.p1, hl⟩
theorem DK.below (h : DK w gd x T) (hb : Below w.heap.size w w') : DK w' gd x T := by
  obtain ⟨S1, S2, mn, ms, vo, vp, h⟩ := h
  exact ⟨S1, S2, mn, ms, vo, vp, h.below hb⟩
theorem DK.wide (h : DK w gd x T) (hs : ∀ g, T g → T' g) (hl : ∀ g, T' g → g < w.heap.size) : DK w gd x T' := by
  obtain ⟨S1, S2, mn, ms, vo, vp, h⟩ := h
  exact ⟨S1, S2, mn, ms, vo, vp, h.wide hs hl⟩
theorem DK.grow (h : DK w' gd x T) (hl : ∀ g, T g → g < w'.heap.size) : DK w' gd x (grow T w w') := h.wide (fun g hg => .inl hg) (fun g hg => by
  rcases hg with hg | ⟨_, hg⟩
  · exact hl g hg
  · exact hg)
theorem DK.lt (h : DK w gd x T) : ∀ g, T g → g < w.heap.size := by
  obtain ⟨S1, S2, mn, ms, vo, vp, h⟩ := h
  exact h.lt
theorem DP.cell (h : DP w gd x T S1 S2 mn ms vo vp) (i : Nat) (hi : i < 6) : w.cell? ⟨gd, i, none⟩ = some (dc mn ms vo vp x.made x.dead i) := World.rowIs.cell h.row hi
/-- What stands under a name. -/
theorem FsO.look {m : Option Nat} {f : FS} (h : FsO w m f S) {s : ByteArray} (hs : s.size ≤ maxLen) : ∃ v, (Instr.lookup 230 (.map m) (.string s) false).run Tryz.prog w = .ok v w ∧ (Instr.lookup 230 (.map m) (.string s) true).run Tryz.prog w = .ok (.tuple #[v, .bool (f.get (lsD s)).isSome]) w ∧ Own w v (f.at (lsD s)) := by
  rcases h with ⟨rfl, rfl, rfl⟩ | ⟨b, F, rfl, h⟩
  · exact ⟨.slice none 0 0, Maps.look_nil false lawS Tryz.underlying230 (zeroSl w) (keyS s hs), Maps.look_nil true lawS Tryz.underlying230 (zeroSl w) (keyS s hs), Own.nil w⟩
  · refine ⟨vl F (lsD s), h.mp.look hs, ?_, h.ownv _⟩
    have hd := h.dom (lsD s)
    cases hF : F (lsD s) with
    | none =>
      rw [hF] at hd
      rw [← hd, h.mp.look_no hs hF]
      unfold vl
      rw [hF]
      rfl
    | some v =>
      rw [hF] at hd
      rw [← hd, h.mp.look_ok hs hF]
      unfold vl
      rw [hF]
      rfl
theorem FsO.len {m : Option Nat} {f : FS} (h : FsO w m f S) (ty : TypeId) : (Builtin.len_ #[230] ty #[.map m]).run Tryz.prog w = .ok (.int .i64 (f.n : Int)) w := by
  rcases h with ⟨rfl, rfl, rfl⟩ | ⟨b, F, rfl, h⟩
  · exact Maps.len_nil Tryz.underlying230 ty
  · exact h.mp.len ty
end
/-! ### Small calls -/
theorem eqp (a : Option Addr) (w : World) : (binOp .eql 96 (.pointer a) (.pointer none)).run Tryz.prog w = .ok (.bool a.isNone) w := by
  cases a <;> kernel_rfl
section
set_option maxRecDepth 10000
set_option maxHeartbeats 1000000
theorem dead_nil (w : World) : Calls Tryz.prog 38 #[.pointer none] w fun e w' => e = .returned (.bool true) ∧ w' = w := by
  go_enter Tryz.func38, Tryz.ntmps38
  go_wp2
  go_ret
  exact ⟨rfl, rfl⟩
theorem dead_cell (gd : Nat) (b : Bool) (w : World) (h : w.cell? ⟨gd, 5, none⟩ = some (.bool b)) : Calls Tryz.prog 38 #[.pointer (some ⟨gd, 0, none⟩)] w fun e w' => e = .returned (.bool b) ∧ w' = w := by
  go_enter Tryz.func38, Tryz.ntmps38
  go_wp2
  go_ret
  exact ⟨rfl, rfl⟩
theorem newD_any (w : World) : Calls Tryz.prog 32 #[] w fun e w' => e = .returned (.pointer (some ⟨w.heap.size, 0, none⟩)) ∧ DK w' w.heap.size ⟨FS.none, FS.none, [], 0, [], false⟩ (fun g => g = w.heap.size) ∧ Below w.heap.size w w' := by
  go_enter Tryz.func32, Tryz.ntmps32
  go_wp2
  go_ret
  refine ⟨rfl, ⟨fun _ => False, fun _ => False, none, none, .slice none 0 0, .slice none 0 0, row_of (n := 6) rfl (heap_alloc_last w _) (fun i hi => ?_), .inl ⟨rfl, rfl, rfl⟩, .inl ⟨rfl, rfl, rfl⟩, World.ownsRow_nil _ _ _ _, World.ownsRow_nil _ _ _ _, rfl, fun _ h => h.elim, fun _ h => h.elim, fun _ h => (by cases h), fun _ h => (by cases h), fun _ h => h.elim, fun h => h, fun h => h, fun _ h => (by cases h), fun _ h => (by cases h), fun g hg => by simp [hg]⟩, (Below.refl _ _).alloc (Nat.le_refl _) _⟩
  have : i = 0 ∨ i = 1 ∨ i = 2 ∨ i = 3 ∨ i = 4 ∨ i = 5 := by omega
  rcases this with rfl | rfl | rfl | rfl | rfl | rfl <;> rfl
end
end Go.Proofs.YtppooipamibhoaaGreatDoor
namespace Go.Proofs.YtppooipamibhoaaGreatDoor
open Go.RowKit
open Go.Deep
open Go.Lib
/-- The first error of a call with these names. -/
def rdy (dead : Bool) (N : List ByteArray) : Int := if dead then 7 else if N.all (fun s => isName (lsD s)) then 0 else 70
/-- Names in a slice at block g. -/
def NmAt (w : World) (g : Nat) (N : List ByteArray) : Prop := ∀ i s, N[i]? = some s → w.cell? ⟨g, i, none⟩ = some (.string s) ∧ s.size ≤ maxLen
theorem names_snoc (N : List ByteArray) (k : Nat) (s : ByteArray) (h : N[k]? = some s) : (N.take (k + 1)).all (fun s => isName (lsD s)) = ((N.take k).all (fun s => isName (lsD s)) && isName (lsD s)) := by
  rw [List.take_add_one, h]
  simp
section
set_option maxRecDepth 10000
set_option maxHeartbeats 1000000
theorem ready_nil (v : Value) (w : World) : Calls Tryz.prog 266 #[.pointer none, v] w fun e w' => e = .returned (.int .i64 7) ∧ w' = w := by
  have HD := hide fun W => dead_nil W
  go_enter Tryz.func266, Tryz.ntmps266
  go_wp2_with (go_at_call 38; refine (HD.out _).mono ?_; rintro e w' ⟨rfl, rfl⟩)
  go_ret
  exact ⟨rfl, rfl⟩
theorem ready_any (gd : Nat) (dead : Bool) (g cap : Nat) (N : List ByteArray) (w : World) (hd : w.cell? ⟨gd, 5, none⟩ = some (.bool dead)) (hN : NmAt w g N) (hn : N.length ≤ 1000) : Calls Tryz.prog 266 #[.pointer (some ⟨gd, 0, none⟩), .slice (some ⟨g, 0, none⟩) N.length cap] w fun e w' => e = .returned (.int .i64 (rdy dead N)) ∧ w' = w := by
  have HD := hide (dead_cell gd dead w hd)
  have HN := hide hN
  clear hd hN
  cases dead
  · unfold rdy
    rw [if_neg (by decide)]
    obtain ⟨R, hR⟩ : ∃ R, R = (if N.all (fun s => isName (lsD s)) then (0 : Int) else 70) := ⟨_, rfl⟩
    rw [← hR]
    have HR := hide hR
    clear hR
    go_enter Tryz.func266, Tryz.ntmps266
    go_wp2_with (go_at_call 38; refine HD.out.mono ?_; rintro e w1 ⟨rfl, hw⟩; subst w1)
    go_loop [11] (fun i => ∃ k : Nat, k ≤ N.length ∧ i = .int .i64 k ∧ Hid ((N.take k).all (fun s => isName (lsD s)) = true)) (fun i => (N.length - intOf i).toNat)
    case atStart => exact ⟨0, Nat.zero_le _, rfl, rfl⟩
    case round =>
      obtain ⟨k, hk, rfl, ha⟩ := hrel
      by_cases hlt : k < N.length
      · obtain ⟨s, hs⟩ : ∃ s, N[k]? = some s := ⟨_, List.getElem?_eq_getElem hlt⟩
        obtain ⟨hc, hm⟩ := HN.out k s hs
        have SN := hide (names_snoc N k s hs)
        have HI := hide fun W => isName_any s W hm
        have k0 : (0 : Int) ≤ k := by omega
        have k1 : (k : Int) < N.length := by omega
        cases hb : isName (lsD s)
        · have hno : Hid (R = 70) := by
            show _ = _
            rw [HR.out, if_neg]
            intro e
            have h1 := SN.out
            rw [hb, Bool.and_false] at h1
            rw [← List.take_append_drop (k + 1) N, List.all_append, h1] at e
            simp at e
          rw [show isName s.data.toList = false from hb] at HI
          clear SN hb hm hs
          go_wp2_with (go_at_call 332; refine (HI.out _).mono ?_; rintro e w1 ⟨rfl, hw⟩; subst w1)
          go_ret
          exact ⟨by rw [hno.out]; rfl, rfl⟩
        · have hyes : Hid ((N.take (k + 1)).all (fun s => isName (lsD s)) = true) := by
            show _ = _
            rw [SN.out, ha.out, hb]
            rfl
          rw [show isName s.data.toList = true from hb] at HI
          clear SN hb hm hs
          go_wp2_with (go_at_call 332; refine (HI.out _).mono ?_; rintro e w1 ⟨rfl, hw⟩; subst w1)
          go_round
          case rel => exact ⟨k + 1, by omega, by go_num, hyes⟩
          case measure => simp [intOf]; omega
      · have hke : k = N.length := by omega
        subst hke
        have hall : Hid (R = 0) := by
          show _ = _
          have h1 := ha.out
          rw [List.take_length] at h1
          rw [HR.out, if_pos h1]
        go_wp2
        go_ret
        exact ⟨by rw [hall.out]; rfl, rfl⟩
  · unfold rdy
    rw [if_pos rfl]
    go_enter Tryz.func266, Tryz.ntmps266
    go_wp2_with (go_at_call 38; refine HD.out.mono ?_; rintro e w1 ⟨rfl, hw⟩; subst w1)
    go_ret
    exact ⟨rfl, rfl⟩
end
end Go.Proofs.YtppooipamibhoaaGreatDoor
namespace Go.Proofs.YtppooipamibhoaaGreatDoor
open Go.RowKit
open Go.Deep
open Go.Lib
/-- The error of a call that needs a file. -/
def fnd (x : StD) (nm : ByteArray) : Int := if rdy x.dead [nm] = 0 then (if (x.now.get (lsD nm)).isSome then 0 else 2) else rdy x.dead [nm]
theorem rdy_cases (d : Bool) (N : List ByteArray) : rdy d N = 0 ∨ rdy d N = 7 ∨ rdy d N = 70 := by
  unfold rdy
  split
  · exact .inr (.inl rfl)
  · split
    · exact .inl rfl
    · exact .inr (.inr rfl)
theorem one_name (w : World) (nm : ByteArray) (h : nm.size ≤ maxLen) : NmAt (w.alloc (.cells #[.string nm] 9)) w.heap.size [nm] := fun i s hs => by
  have : i = 0 := by
    rcases Nat.lt_or_ge i 1 with h' | h'
    · omega
    · rw [List.getElem?_eq_none (by simpa using h')] at hs
      cases hs
  subst this
  simp at hs
  subst hs
  exact ⟨by rw [cell_of_row _ _ _ _ _ _ (heap_alloc_last w _)]; rfl, h⟩
section
set_option maxRecDepth 10000
set_option maxHeartbeats 1000000
theorem find_nil (nm : ByteArray) (w : World) : Calls Tryz.prog 196 #[.pointer none, .string nm] w fun e w' => e = .returned (.tuple #[.slice none 0 0, .int .i64 7]) ∧ Below w.heap.size w w' := by
  have HD := hide fun v W => ready_nil v W
  have hB : Hid (Below w.heap.size w (w.alloc (.cells #[.string nm] 9))) := (Below.refl _ _).alloc (Nat.le_refl _) _
  go_enter Tryz.func196, Tryz.ntmps196
  go_wp2_with (go_at_call 266; refine (HD.out _ _).mono ?_; rintro e w1 ⟨rfl, hw⟩; subst w1)
  go_ret2
  exact ⟨rfl, hB.out⟩
theorem find_any (gd : Nat) (x : StD) (T : Nat → Prop) (nm : ByteArray) (w : World) (h : DK w gd x T) (hm : nm.size ≤ maxLen) : Calls Tryz.prog 196 #[.pointer (some ⟨gd, 0, none⟩), .string nm] w fun e w' => (∃ v, e = .returned (.tuple #[v, .int .i64 (fnd x nm)]) ∧ Own w' v (if fnd x nm = 0 then x.now.at (lsD nm) else [])) ∧ Below w.heap.size w w' := by
  obtain ⟨S1, S2, mn, ms, vo, vp, h⟩ := h
  have hB : Below w.heap.size w (w.alloc (.cells #[.string nm] 9)) := (Below.refl _ _).alloc (Nat.le_refl _) _
  have h1 := h.below hB
  have c5 := h1.cell 5 (by decide)
  have c0 := h1.cell 0 (by decide)
  rw [show dc mn ms vo vp x.made x.dead 5 = .bool x.dead from rfl] at c5
  rw [show dc mn ms vo vp x.made x.dead 0 = .map mn from rfl] at c0
  have HR := hide (ready_any gd x.dead w.heap.size 1 [nm] _ c5 (one_name w nm hm) (by simp))
  rw [show [nm].length = 1 from rfl] at HR
  obtain ⟨v, hl1, hl2, ov⟩ := h1.now.look hm
  obtain ⟨ao, n, c, rfl, _⟩ := ov.form
  have HB := hide hB
  have OV := hide ov
  unfold fnd
  clear h h1 hm hB ov hl1 c5
  rcases rdy_cases x.dead [nm] with hr | hr | hr
  · rw [hr, if_pos rfl]
    rw [hr] at HR
    cases hg : (x.now.get (lsD nm)).isSome
    · rw [hg] at hl2
      rw [if_neg (by decide), if_neg (by decide)]
      clear hg hr
      go_enter Tryz.func196, Tryz.ntmps196
      go_wp2_with (go_at_call 266; refine HR.out.mono ?_; rintro e w1 ⟨rfl, hw⟩; subst w1)
      go_ret2
      exact ⟨⟨_, rfl, Own.nil _⟩, HB.out⟩
    · rw [hg] at hl2
      rw [if_pos rfl, if_pos rfl]
      clear hg hr
      go_enter Tryz.func196, Tryz.ntmps196
      go_wp2_with (go_at_call 266; refine HR.out.mono ?_; rintro e w1 ⟨rfl, hw⟩; subst w1)
      go_ret2
      exact ⟨⟨_, rfl, OV.out⟩, HB.out⟩
  all_goals
    rw [hr, if_neg (by decide), if_neg (by decide)]
    rw [hr] at HR
    clear hr
    go_enter Tryz.func196, Tryz.ntmps196
    go_wp2_with (go_at_call 266; refine HR.out.mono ?_; rintro e w1 ⟨rfl, hw⟩; subst w1)
    go_ret2
    exact ⟨⟨_, rfl, Own.nil _⟩, HB.out⟩
theorem read_nil (nm : ByteArray) (w : World) : Calls Tryz.prog 114 #[.pointer none, .string nm] w fun e w' => e = .returned (.tuple #[.string ⟨#[]⟩, .int .i64 7]) ∧ Below w.heap.size w w' := by
  have HD := hide (find_nil nm w)
  have hc := fun W => conv_own (Own.nil W)
  go_enter Tryz.func114, Tryz.ntmps114
  go_wp2_with (go_at_call 196; refine HD.out.mono ?_; rintro e w1 ⟨rfl, hb⟩; have HB := hide hb; clear hb)
  go_ret2
  exact ⟨rfl, HB.out⟩
theorem read_any (gd : Nat) (x : StD) (T : Nat → Prop) (nm : ByteArray) (w : World) (h : DK w gd x T) (hm : nm.size ≤ maxLen) : Calls Tryz.prog 114 #[.pointer (some ⟨gd, 0, none⟩), .string nm] w fun e w' => e = .returned (.tuple #[.string ⟨(if fnd x nm = 0 then x.now.at (lsD nm) else []).toArray⟩, .int .i64 (fnd x nm)]) ∧ Below w.heap.size w w' := by
  have HD := hide (find_any gd x T nm w h hm)
  generalize (if fnd x nm = 0 then x.now.at (lsD nm) else []) = L at *
  generalize fnd x nm = E at *
  clear h
  go_enter Tryz.func114, Tryz.ntmps114
  go_wp2_with (go_at_call 196; refine HD.out.mono ?_; rintro e w1 ⟨⟨v, rfl, o⟩, hb⟩; have HB := hide hb; have hc := conv_own o; clear hb o)
  go_ret2
  exact ⟨rfl, HB.out⟩
theorem size_nil (nm : ByteArray) (w : World) : Calls Tryz.prog 131 #[.pointer none, .string nm] w fun e w' => e = .returned (.tuple #[.int .i64 0, .int .i64 7]) ∧ Below w.heap.size w w' := by
  have HD := hide (find_nil nm w)
  go_enter Tryz.func131, Tryz.ntmps131
  go_wp2_with (go_at_call 196; refine HD.out.mono ?_; rintro e w1 ⟨rfl, hb⟩; have HB := hide hb; clear hb)
  go_ret2
  exact ⟨rfl, HB.out⟩
theorem sizeD_any (gd : Nat) (x : StD) (T : Nat → Prop) (nm : ByteArray) (w : World) (h : DK w gd x T) (hm : nm.size ≤ maxLen) : Calls Tryz.prog 131 #[.pointer (some ⟨gd, 0, none⟩), .string nm] w fun e w' => e = .returned (.tuple #[.int .i64 ((if fnd x nm = 0 then x.now.at (lsD nm) else []).length : Int), .int .i64 (fnd x nm)]) ∧ Below w.heap.size w w' := by
  have HD := hide (find_any gd x T nm w h hm)
  generalize (if fnd x nm = 0 then x.now.at (lsD nm) else []) = L at *
  generalize fnd x nm = E at *
  clear h
  go_enter Tryz.func131, Tryz.ntmps131
  go_wp2_with (go_at_call 196; refine HD.out.mono ?_; rintro e w1 ⟨⟨v, rfl, o⟩, hb⟩; obtain ⟨ao, n, c, rfl, hn⟩ := o.form; have HB := hide hb; clear hb o)
  go_ret2
  exact ⟨by rw [← hn.out]; rfl, HB.out⟩
theorem up_nil (w : World) : Calls Tryz.prog 42 #[.pointer none] w fun e w' => e = .returned (.bool false) ∧ w' = w := by
  go_enter Tryz.func42, Tryz.ntmps42
  go_wp2
  go_ret
  exact ⟨rfl, rfl⟩
theorem DP.setDead {w : World} {gd : Nat} {x : StD} {T S1 S2 : Nat → Prop} {mn ms : Option Nat} {vo vp : Value} (h : DP w gd x T S1 S2 mn ms vo vp) (d : Bool) : DP (w.setCell ⟨gd, 5, none⟩ (.bool d)) gd { x with dead := d } T S1 S2 mn ms vo vp := by
  have hb : ∀ g, g ≠ gd → (w.setCell ⟨gd, 5, none⟩ (.bool d)).heap[g]? = w.heap[g]? := fun g hg => Below.heap_setCell _ _ _ _ hg
  have hs : (w.setCell ⟨gd, 5, none⟩ (.bool d)).heap.size = w.heap.size := by simp [World.setCell]
  refine ⟨(World.rowIs.set h.row 5 (.bool d)).congr fun i hi => ?_, h.now.frame (by omega) fun g hg => hb g fun e => h.d1 (e ▸ hg), h.sure.frame (by omega) fun g hg => hb g fun e => h.d2 (e ▸ hg), rowsOf h.loose fun g hg => hb g (h.l1 g hg).2.2, rowsOf h.plan fun g hg => hb g (h.p1 g hg).2.2, h.tg, h.t1, h.t2, h.tl, h.tp, h.apart, h.d1, h.d2, h.l1, h.p1, fun g hg => by rw [hs]; exact h.lt g hg⟩
  have : i = 0 ∨ i = 1 ∨ i = 2 ∨ i = 3 ∨ i = 4 ∨ i = 5 := by omega
  rcases this with rfl | rfl | rfl | rfl | rfl | rfl <;> rfl
theorem upD_any (gd : Nat) (x : StD) (T : Nat → Prop) (w : World) (h : DK w gd x T) : Calls Tryz.prog 42 #[.pointer (some ⟨gd, 0, none⟩)] w fun e w' => e = .returned (.bool x.dead) ∧ DK w' gd { x with dead := false } T ∧ Fr T w w' ∧ w'.heap.size = w.heap.size := by
  obtain ⟨S1, S2, mn, ms, vo, vp, h⟩ := h
  have c5 := h.cell 5 (by decide)
  rw [show dc mn ms vo vp x.made x.dead 5 = .bool x.dead from rfl] at c5
  have f5 := World.rowIs.frozen h.row 5
  have H := hide h
  clear h
  cases hd : x.dead
  · rw [hd] at c5
    have e : Hid ({ x with dead := false } = x) := by
      show _ = _
      cases x
      simp only at hd
      rw [hd]
    clear hd
    go_enter Tryz.func42, Tryz.ntmps42
    go_wp2
    go_ret
    exact ⟨rfl, by rw [e.out]; exact ⟨S1, S2, mn, ms, vo, vp, H.out⟩, Fr.refl _ _, rfl⟩
  · rw [hd] at c5
    clear hd
    go_enter Tryz.func42, Tryz.ntmps42
    go_wp2
    go_ret
    exact ⟨rfl, ⟨S1, S2, mn, ms, vo, vp, H.out.setDead false⟩, Fr.setCell _ H.out.tg _, by simp [World.setCell]⟩
end
end Go.Proofs.YtppooipamibhoaaGreatDoor
