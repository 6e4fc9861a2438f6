/- What the law's ref holds while it makes the document's message. -/
import Derived.Test.YtkoidjaaojmcnaaGreatM08
namespace Go.Proofs.YtkoidjaaojmcnaaGreat
open Go.RowKit
open Go.Deep
/-- A message's cell. -/
def mcf (m : Mg) (s : Vs) (i : Nat) : Value := (m.cells s)[i]?.getD default
section
variable (m : Mg) (s : Vs)
theorem Mg.set1 (k : Nat) (v : Value) (h : k < 7) : (m.cells s).set (43 + k) v = m.c0 ++ (m.dst.cells ++ (m.src.cells ++ ((m.c1 s).set k v ++ (cellsL m.stop.1 ++ (cellsL m.hash.1 ++ m.c2 s))))) := by
  have l0 : m.c0.length = 5 := rfl
  have l1 := m.dst.len
  have l2 := m.src.len
  have l3 : (m.c1 s).length = 7 := rfl
  rw [Mg.cells, List.set_append_right _ _ (by omega), List.set_append_right _ _ (by omega), List.set_append_right _ _ (by omega), List.set_append_left _ _ (by omega), show 43 + k - m.c0.length - m.dst.cells.length - m.src.cells.length = k by omega]
theorem Mg.set2 (k : Nat) (v : Value) : (m.cells s).set (114 + k) v = m.c0 ++ (m.dst.cells ++ (m.src.cells ++ (m.c1 s ++ (cellsL m.stop.1 ++ (cellsL m.hash.1 ++ (m.c2 s).set k v))))) := by
  have l0 : m.c0.length = 5 := rfl
  have l1 := m.dst.len
  have l2 := m.src.len
  have l3 : (m.c1 s).length = 7 := rfl
  have l4 := m.stl
  have l5 := m.hal
  rw [Mg.cells, List.set_append_right _ _ (by omega), List.set_append_right _ _ (by omega), List.set_append_right _ _ (by omega), List.set_append_right _ _ (by omega), List.set_append_right _ _ (by omega), List.set_append_right _ _ (by omega), show 114 + k - m.c0.length - m.dst.cells.length - m.src.cells.length - (m.c1 s).length - (cellsL m.stop.1).length - (cellsL m.hash.1).length = k by omega]
theorem mcf_set {m : Mg} {s s' : Vs} {k : Nat} {v : Value} (hk : k < 121) (e : (m.cells s).set k v = m.cells s') : ∀ j, j < 121 → (if j = k then v else mcf m s j) = mcf m s' j := by
  intro j hj
  unfold mcf
  rw [← e]
  by_cases h : j = k
  · subst h
    rw [if_pos rfl, List.getElem?_set_self (by rw [m.len]; exact hj)]
    rfl
  · rw [if_neg h, List.getElem?_set_ne (Ne.symm h)]
theorem mcf_of {W : World} {g : Nat} {t : TypeId} (h : W.heap[g]? = some (.cells (m.cells s).toArray t (0, 0))) : W.rowIs g t 121 (mcf m s) := ⟨_, h, m.size s, fun i hi => by
  rw [List.getElem?_toArray]
  unfold mcf
  rw [List.getElem?_eq_getElem (by rw [m.len]; exact hi)]
  rfl⟩
theorem mcf_row {W : World} {g : Nat} {t : TypeId} (h : W.rowIs g t 121 (mcf m s)) : W.heap[g]? = some (.cells (m.cells s).toArray t (0, 0)) := by
  obtain ⟨c, hb, hn, hc⟩ := h
  rw [hb]
  congr 2
  apply Array.ext
  · rw [hn, m.size]
  · intro i h1 h2
    have := hc i (by omega)
    unfold mcf at this
    rw [Array.getElem?_eq_getElem h1, List.getElem?_eq_getElem (by simpa using h2)] at this
    simpa using this
end

def Vs.ata (s : Vs) (v : Value) : Vs := { s with a := v }
def Mg.ata (m : Mg) (p : Mg) : Mg := { p with addrs := m.addrs }
theorem mcf_a (m : Mg) (s : Vs) (v : Value) : ∀ j, j < 121 → (if j = 47 then v else mcf m s j) = mcf m (s.ata v) j := mcf_set (by decide) (by rw [show 47 = 43 + 4 from rfl, m.set1 s 4 v (by decide)]; rfl)
theorem mcv_a (m : Mg) (s : Vs) : mcf m s 47 = s.a := by unfold mcf; rw [show 47 = 43 + 4 from rfl, m.at1 s 4 (by decide)]; rfl
theorem ata_ata (s : Vs) (u v : Value) : (s.ata u).ata v = s.ata v := rfl
def Vs.ati (s : Vs) (v : Value) : Vs := { s with i := v }
def Mg.ati (m : Mg) (p : Mg) : Mg := { p with items := m.items }
theorem mcf_i (m : Mg) (s : Vs) (v : Value) : ∀ j, j < 121 → (if j = 48 then v else mcf m s j) = mcf m (s.ati v) j := mcf_set (by decide) (by rw [show 48 = 43 + 5 from rfl, m.set1 s 5 v (by decide)]; rfl)
theorem mcv_i (m : Mg) (s : Vs) : mcf m s 48 = s.i := by unfold mcf; rw [show 48 = 43 + 5 from rfl, m.at1 s 5 (by decide)]; rfl
theorem ati_ati (s : Vs) (u v : Value) : (s.ati u).ati v = s.ati v := rfl
def Vs.ath (s : Vs) (v : Value) : Vs := { s with h := v }
def Mg.ath (m : Mg) (p : Mg) : Mg := { p with hashes := m.hashes }
theorem mcf_h (m : Mg) (s : Vs) (v : Value) : ∀ j, j < 121 → (if j = 49 then v else mcf m s j) = mcf m (s.ath v) j := mcf_set (by decide) (by rw [show 49 = 43 + 6 from rfl, m.set1 s 6 v (by decide)]; rfl)
theorem mcv_h (m : Mg) (s : Vs) : mcf m s 49 = s.h := by unfold mcf; rw [show 49 = 43 + 6 from rfl, m.at1 s 6 (by decide)]; rfl
theorem ath_ath (s : Vs) (u v : Value) : (s.ath u).ath v = s.ath v := rfl
def Vs.athd (s : Vs) (v : Value) : Vs := { s with hd := v }
def Mg.athd (m : Mg) (p : Mg) : Mg := { p with heads := m.heads }
theorem mcf_hd (m : Mg) (s : Vs) (v : Value) : ∀ j, j < 121 → (if j = 114 then v else mcf m s j) = mcf m (s.athd v) j := mcf_set (by decide) (by rw [show 114 = 114 + 0 from rfl, m.set2 s 0 v]; rfl)
theorem mcv_hd (m : Mg) (s : Vs) : mcf m s 114 = s.hd := by unfold mcf; rw [show 114 = 114 + 0 from rfl, m.at2 s 0]; rfl
theorem athd_athd (s : Vs) (u v : Value) : (s.athd u).athd v = s.athd v := rfl
def Vs.atsh (s : Vs) (v : Value) : Vs := { s with sh := v }
def Mg.atsh (m : Mg) (p : Mg) : Mg := { p with shorts := m.shorts }
theorem mcf_sh (m : Mg) (s : Vs) (v : Value) : ∀ j, j < 121 → (if j = 117 then v else mcf m s j) = mcf m (s.atsh v) j := mcf_set (by decide) (by rw [show 117 = 114 + 3 from rfl, m.set2 s 3 v]; rfl)
theorem mcv_sh (m : Mg) (s : Vs) : mcf m s 117 = s.sh := by unfold mcf; rw [show 117 = 114 + 3 from rfl, m.at2 s 3]; rfl
theorem atsh_atsh (s : Vs) (u v : Value) : (s.atsh u).atsh v = s.atsh v := rfl
def Vs.atf (s : Vs) (v : Value) : Vs := { s with f := v }
def Mg.atf (m : Mg) (p : Mg) : Mg := { p with filled := m.filled }
theorem mcf_f (m : Mg) (s : Vs) (v : Value) : ∀ j, j < 121 → (if j = 118 then v else mcf m s j) = mcf m (s.atf v) j := mcf_set (by decide) (by rw [show 118 = 114 + 4 from rfl, m.set2 s 4 v]; rfl)
theorem mcv_f (m : Mg) (s : Vs) : mcf m s 118 = s.f := by unfold mcf; rw [show 118 = 114 + 4 from rfl, m.at2 s 4]; rfl
theorem atf_atf (s : Vs) (u v : Value) : (s.atf u).atf v = s.atf v := rfl
def Vs.atp (s : Vs) (v : Value) : Vs := { s with p := v }
def Mg.atp (m : Mg) (p : Mg) : Mg := { p with places := m.places }
theorem mcf_p (m : Mg) (s : Vs) (v : Value) : ∀ j, j < 121 → (if j = 119 then v else mcf m s j) = mcf m (s.atp v) j := mcf_set (by decide) (by rw [show 119 = 114 + 5 from rfl, m.set2 s 5 v]; rfl)
theorem mcv_p (m : Mg) (s : Vs) : mcf m s 119 = s.p := by unfold mcf; rw [show 119 = 114 + 5 from rfl, m.at2 s 5]; rfl
theorem atp_atp (s : Vs) (u v : Value) : (s.atp u).atp v = s.atp v := rfl
def Vs.atr (s : Vs) (v : Value) : Vs := { s with r := v }
def Mg.atr (m : Mg) (p : Mg) : Mg := { p with raws := m.raws }
theorem mcf_r (m : Mg) (s : Vs) (v : Value) : ∀ j, j < 121 → (if j = 120 then v else mcf m s j) = mcf m (s.atr v) j := mcf_set (by decide) (by rw [show 120 = 114 + 6 from rfl, m.set2 s 6 v]; rfl)
theorem mcv_r (m : Mg) (s : Vs) : mcf m s 120 = s.r := by unfold mcf; rw [show 120 = 114 + 6 from rfl, m.at2 s 6]; rfl
theorem atr_atr (s : Vs) (u v : Value) : (s.atr u).atr v = s.atr v := rfl
/-- A list that a loop makes: all blocks of B stay but g3; it lies behind B, and its value in a cell of block g3. -/
structure Ob {α : Type} (E : Ek α) (t : TypeId) (g3 : Nat) (B : World) (f : Value → Nat → Value) (W : World) (v : Value) (L : List α) : Prop where
  fr : Rfr g3 B W
  row : W.rowIs g3 t 121 (f v)
  ox : OX E W v L
  far : ∀ g, v.ownBlock = some g → B.heap.size ≤ g
  lt : g3 < B.heap.size
section
variable {α : Type} {E : Ek α} {t : TypeId} {g3 : Nat} {B W W' : World} {f : Value → Nat → Value} {v v' : Value} {L N : List α}
theorem Ob.start (r : B.rowIs g3 t 121 (f (.slice none 0 0))) : Ob E t g3 B f B (.slice none 0 0) [] := ⟨Rfr.refl _ _, r, OX.nil _, fun g h => (by cases h), r.lt⟩
theorem Ob.next (j : Ob E t g3 B f W v L) (b : Below W.heap.size W W') : Ob E t g3 B f W' v L := ⟨j.fr.trans (Rfr.below b), j.row.of_block (b.block _ j.row.lt), j.ox.below b, j.far, j.lt⟩
theorem Ob.frO (j : Ob E t g3 B f W v L) (on : Onto W W' v v') : Rfr g3 B W' ∧ W'.rowIs g3 t 121 (f v) := by
  have g := on.grown
  have hk : ∀ k, k < B.heap.size → W'.heap[k]? = W.heap[k]? := fun k hk => g.block k (by have := j.fr.size; omega) (fun e => by have := j.far k e.symm; omega)
  refine ⟨⟨g.os.trans j.fr.os, g.tape.trans j.fr.tape, g.output.trans j.fr.output, Nat.le_trans j.fr.size g.size, fun k h1 h2 => (hk k h1).trans (j.fr.block k h1 h2)⟩, j.row.of_block (hk g3 j.lt)⟩
theorem Ob.put (j : Ob E t g3 B f W v L) (o : OX E W' v' (L ++ N)) (on : Onto W W' v v') (k : Nat) (e : ∀ j, j < 121 → (if j = k then v' else f v j) = f v' j) : Ob E t g3 B f (W'.setCell ⟨g3, k, none⟩ v') v' (L ++ N) := by
  obtain ⟨h1, h2⟩ := j.frO on
  have hf : ∀ g, v'.ownBlock = some g → B.heap.size ≤ g := fun g hg => by
    rcases on.lies with h | ⟨b, h, hb⟩
    · exact j.far g (by rw [← h]; exact hg)
    · rw [h] at hg
      cases hg
      exact Nat.le_trans j.fr.size hb
  refine ⟨h1.trans (Rfr.setCell _ _ _ _), (h2.set k v').congr e, o.of_block fun g hg => blk_setCell_other _ _ _ _ (fun e => ?_), hf, j.lt⟩
  have := hf g hg
  have := j.lt
  have e' : g = g3 := e
  omega
end
/-- What ref holds between its loops: the message that came in, the answer's place, what is made so far, the lists. -/
structure Rb (w : World) (m : Mg) (s : Vs) (g3 : Nat) (so : Vs) (p : Mg) (B : World) : Prop where
  bel : Below w.heap.size w B
  r1 : B.rowIs w.heap.size 38 121 (mcf m s)
  r2 : B.heap[w.heap.size + 1]? = some (.cells (zM.cells nil8).toArray 50 (0, 0))
  r3 : B.rowIs g3 50 121 (mcf m so)
  lt : w.heap.size + 1 < g3
  la : OX KNr B so.a p.addrs
  li : OX KIr B so.i p.items
  lh : OX KHr B so.h p.hashes
  lhd : OX KS B so.hd p.heads
  lsh : OX KU B so.sh p.shorts
  lf : OX KFr B so.f p.filled
  lp : OX KP B so.p p.places
  lr : OX KS B so.r p.raws
  na : ∀ g, so.a.ownBlock = some g → g ≠ g3
  ni : ∀ g, so.i.ownBlock = some g → g ≠ g3
  nh : ∀ g, so.h.ownBlock = some g → g ≠ g3
  nhd : ∀ g, so.hd.ownBlock = some g → g ≠ g3
  nsh : ∀ g, so.sh.ownBlock = some g → g ≠ g3
  nf : ∀ g, so.f.ownBlock = some g → g ≠ g3
  np : ∀ g, so.p.ownBlock = some g → g ≠ g3
  nr : ∀ g, so.r.ownBlock = some g → g ≠ g3
section
variable {w : World} {m : Mg} {s : Vs} {g3 : Nat} {so : Vs} {p : Mg} {B W : World}
theorem Rb.belW (R : Rb w m s g3 so p B) (fr : Rfr g3 B W) : Below w.heap.size w W := R.bel.trans (fr.to_below (by have := R.lt; omega) R.bel.size)
theorem Rb.r1W (R : Rb w m s g3 so p B) (fr : Rfr g3 B W) : W.rowIs w.heap.size 38 121 (mcf m s) := R.r1.of_block (fr.block _ R.r1.lt (by have := R.lt; omega))
theorem Rb.r2W (R : Rb w m s g3 so p B) (fr : Rfr g3 B W) : W.heap[w.heap.size + 1]? = some (.cells (zM.cells nil8).toArray 50 (0, 0)) := (fr.block _ (lt_heap R.r2) (by have := R.lt; omega)).trans R.r2
theorem OX.keep {α : Type} {E : Ek α} {v : Value} {L : List α} (h : OX E B v L) (fr : Rfr g3 B W) (hn : ∀ g, v.ownBlock = some g → g ≠ g3) : OX E W v L := h.of_block fun g hg => fr.block g (h.lt g hg) (hn g hg)
theorem Rb.enda (R : Rb w m s g3 so p B) {v : Value} (J : Ob KNr 50 g3 B (fun v => mcf m (so.ata v)) W v m.addrs) : Rb w m s g3 (so.ata v) (m.ata p) W := ⟨R.belW J.fr, R.r1W J.fr, R.r2W J.fr, J.row, R.lt, J.ox, R.li.keep J.fr R.ni, R.lh.keep J.fr R.nh, R.lhd.keep J.fr R.nhd, R.lsh.keep J.fr R.nsh, R.lf.keep J.fr R.nf, R.lp.keep J.fr R.np, R.lr.keep J.fr R.nr, fun g hg => by have := J.far g hg; have := J.lt; omega, R.ni, R.nh, R.nhd, R.nsh, R.nf, R.np, R.nr⟩
theorem Rb.bega (R : Rb w m s g3 so p B) (e : so.a = .slice none 0 0) : Ob KNr 50 g3 B (fun v => mcf m (so.ata v)) B (.slice none 0 0) [] := Ob.start (by rw [← e]; exact R.r3)
theorem Rb.endi (R : Rb w m s g3 so p B) {v : Value} (J : Ob KIr 50 g3 B (fun v => mcf m (so.ati v)) W v m.items) : Rb w m s g3 (so.ati v) (m.ati p) W := ⟨R.belW J.fr, R.r1W J.fr, R.r2W J.fr, J.row, R.lt, R.la.keep J.fr R.na, J.ox, R.lh.keep J.fr R.nh, R.lhd.keep J.fr R.nhd, R.lsh.keep J.fr R.nsh, R.lf.keep J.fr R.nf, R.lp.keep J.fr R.np, R.lr.keep J.fr R.nr, R.na, fun g hg => by have := J.far g hg; have := J.lt; omega, R.nh, R.nhd, R.nsh, R.nf, R.np, R.nr⟩
theorem Rb.begi (R : Rb w m s g3 so p B) (e : so.i = .slice none 0 0) : Ob KIr 50 g3 B (fun v => mcf m (so.ati v)) B (.slice none 0 0) [] := Ob.start (by rw [← e]; exact R.r3)
theorem Rb.endh (R : Rb w m s g3 so p B) {v : Value} (J : Ob KHr 50 g3 B (fun v => mcf m (so.ath v)) W v m.hashes) : Rb w m s g3 (so.ath v) (m.ath p) W := ⟨R.belW J.fr, R.r1W J.fr, R.r2W J.fr, J.row, R.lt, R.la.keep J.fr R.na, R.li.keep J.fr R.ni, J.ox, R.lhd.keep J.fr R.nhd, R.lsh.keep J.fr R.nsh, R.lf.keep J.fr R.nf, R.lp.keep J.fr R.np, R.lr.keep J.fr R.nr, R.na, R.ni, fun g hg => by have := J.far g hg; have := J.lt; omega, R.nhd, R.nsh, R.nf, R.np, R.nr⟩
theorem Rb.begh (R : Rb w m s g3 so p B) (e : so.h = .slice none 0 0) : Ob KHr 50 g3 B (fun v => mcf m (so.ath v)) B (.slice none 0 0) [] := Ob.start (by rw [← e]; exact R.r3)
theorem Rb.endhd (R : Rb w m s g3 so p B) {v : Value} (J : Ob KS 50 g3 B (fun v => mcf m (so.athd v)) W v m.heads) : Rb w m s g3 (so.athd v) (m.athd p) W := ⟨R.belW J.fr, R.r1W J.fr, R.r2W J.fr, J.row, R.lt, R.la.keep J.fr R.na, R.li.keep J.fr R.ni, R.lh.keep J.fr R.nh, J.ox, R.lsh.keep J.fr R.nsh, R.lf.keep J.fr R.nf, R.lp.keep J.fr R.np, R.lr.keep J.fr R.nr, R.na, R.ni, R.nh, fun g hg => by have := J.far g hg; have := J.lt; omega, R.nsh, R.nf, R.np, R.nr⟩
theorem Rb.beghd (R : Rb w m s g3 so p B) (e : so.hd = .slice none 0 0) : Ob KS 50 g3 B (fun v => mcf m (so.athd v)) B (.slice none 0 0) [] := Ob.start (by rw [← e]; exact R.r3)
theorem Rb.endsh (R : Rb w m s g3 so p B) {v : Value} (J : Ob KU 50 g3 B (fun v => mcf m (so.atsh v)) W v m.shorts) : Rb w m s g3 (so.atsh v) (m.atsh p) W := ⟨R.belW J.fr, R.r1W J.fr, R.r2W J.fr, J.row, R.lt, R.la.keep J.fr R.na, R.li.keep J.fr R.ni, R.lh.keep J.fr R.nh, R.lhd.keep J.fr R.nhd, J.ox, R.lf.keep J.fr R.nf, R.lp.keep J.fr R.np, R.lr.keep J.fr R.nr, R.na, R.ni, R.nh, R.nhd, fun g hg => by have := J.far g hg; have := J.lt; omega, R.nf, R.np, R.nr⟩
theorem Rb.begsh (R : Rb w m s g3 so p B) (e : so.sh = .slice none 0 0) : Ob KU 50 g3 B (fun v => mcf m (so.atsh v)) B (.slice none 0 0) [] := Ob.start (by rw [← e]; exact R.r3)
theorem Rb.endf (R : Rb w m s g3 so p B) {v : Value} (J : Ob KFr 50 g3 B (fun v => mcf m (so.atf v)) W v m.filled) : Rb w m s g3 (so.atf v) (m.atf p) W := ⟨R.belW J.fr, R.r1W J.fr, R.r2W J.fr, J.row, R.lt, R.la.keep J.fr R.na, R.li.keep J.fr R.ni, R.lh.keep J.fr R.nh, R.lhd.keep J.fr R.nhd, R.lsh.keep J.fr R.nsh, J.ox, R.lp.keep J.fr R.np, R.lr.keep J.fr R.nr, R.na, R.ni, R.nh, R.nhd, R.nsh, fun g hg => by have := J.far g hg; have := J.lt; omega, R.np, R.nr⟩
theorem Rb.begf (R : Rb w m s g3 so p B) (e : so.f = .slice none 0 0) : Ob KFr 50 g3 B (fun v => mcf m (so.atf v)) B (.slice none 0 0) [] := Ob.start (by rw [← e]; exact R.r3)
theorem Rb.endp (R : Rb w m s g3 so p B) {v : Value} (J : Ob KP 50 g3 B (fun v => mcf m (so.atp v)) W v m.places) : Rb w m s g3 (so.atp v) (m.atp p) W := ⟨R.belW J.fr, R.r1W J.fr, R.r2W J.fr, J.row, R.lt, R.la.keep J.fr R.na, R.li.keep J.fr R.ni, R.lh.keep J.fr R.nh, R.lhd.keep J.fr R.nhd, R.lsh.keep J.fr R.nsh, R.lf.keep J.fr R.nf, J.ox, R.lr.keep J.fr R.nr, R.na, R.ni, R.nh, R.nhd, R.nsh, R.nf, fun g hg => by have := J.far g hg; have := J.lt; omega, R.nr⟩
theorem Rb.begp (R : Rb w m s g3 so p B) (e : so.p = .slice none 0 0) : Ob KP 50 g3 B (fun v => mcf m (so.atp v)) B (.slice none 0 0) [] := Ob.start (by rw [← e]; exact R.r3)
theorem Rb.endr (R : Rb w m s g3 so p B) {v : Value} (J : Ob KS 50 g3 B (fun v => mcf m (so.atr v)) W v m.raws) : Rb w m s g3 (so.atr v) (m.atr p) W := ⟨R.belW J.fr, R.r1W J.fr, R.r2W J.fr, J.row, R.lt, R.la.keep J.fr R.na, R.li.keep J.fr R.ni, R.lh.keep J.fr R.nh, R.lhd.keep J.fr R.nhd, R.lsh.keep J.fr R.nsh, R.lf.keep J.fr R.nf, R.lp.keep J.fr R.np, J.ox, R.na, R.ni, R.nh, R.nhd, R.nsh, R.nf, R.np, fun g hg => by have := J.far g hg; have := J.lt; omega⟩
theorem Rb.begr (R : Rb w m s g3 so p B) (e : so.r = .slice none 0 0) : Ob KS 50 g3 B (fun v => mcf m (so.atr v)) B (.slice none 0 0) [] := Ob.start (by rw [← e]; exact R.r3)
theorem OX.apart {α : Type} {E : Ek α} {v : Value} {L : List α} (h : OX E B v L) {g : Nat} {t : TypeId} {c : Array Value} (hr : B.heap[g]? = some (.cells c t (0, 0))) (hne : E.e ≠ t) : ∀ b, v.ownBlock = some b → b ≠ g := by
  intro b hb e
  subst e
  rcases h.2 with ⟨rfl, h0⟩ | ⟨g', cap, cur, rfl, h4, hg, h5⟩
  · cases hb
  · cases hb
    rw [hr] at hg
    injection hg with hg
    injection hg with _ e2
    exact hne e2.symm
theorem OX.fin {α : Type} {E : Ek α} {v : Value} {L : List α} (h : OX E B v L) {g : Nat} {t : TypeId} {c : Array Value} (hr : B.heap[g]? = some (.cells c t (0, 0))) (hne : E.e ≠ t) (cs : Array Value) : LX E (B.setRow g cs) v L := (h.of_block (W := B.setRow g cs) fun b hb => setRow_other B g b cs (h.apart hr hne b hb)).read
theorem Rb.fin (R : Rb w m s g3 so p B) (ea : p.addrs = m.addrs) (ei : p.items = m.items) (eh : p.hashes = m.hashes) (ehd : p.heads = m.heads) (esh : p.shorts = m.shorts) (ef : p.filled = m.filled) (ep : p.places = m.places) (er : p.raws = m.raws) : MR (B.setRow (w.heap.size + 1) (m.cells so).toArray) so m ∧ Below w.heap.size w (B.setRow (w.heap.size + 1) (m.cells so).toArray) ∧ (B.setRow (w.heap.size + 1) (m.cells so).toArray).heap[w.heap.size + 1]? = some (.cells (m.cells so).toArray 50 (0, 0)) :=
  ⟨⟨ea ▸ R.la.fin R.r2 (by decide) _, ei ▸ R.li.fin R.r2 (by decide) _, eh ▸ R.lh.fin R.r2 (by decide) _, ehd ▸ R.lhd.fin R.r2 (by decide) _, esh ▸ R.lsh.fin R.r2 (by decide) _, ef ▸ R.lf.fin R.r2 (by decide) _, ep ▸ R.lp.fin R.r2 (by decide) _, er ▸ R.lr.fin R.r2 (by decide) _⟩, below_setRow R.bel (by omega) _, setRow_heap _ _ _ _ _ _ R.r2⟩
theorem Rb.ok (R : Rb w m s g3 so p B) : so.ok := ⟨R.la.read.isSl, R.li.read.isSl, R.lh.read.isSl, R.lhd.read.isSl, R.lsh.read.isSl, R.lf.read.isSl, R.lp.read.isSl, R.lr.read.isSl⟩

end
/-! ### steps -/
section
variable {α : Type} {w : World} {ops : Array Oper} {o : Oper} {a : Act} {K : Act → World → Prop} {Q : Exit → Act → World → Prop} {E0 : Prop}
theorem Ek.stepBs1 (E : Ek α) (hgd : o.guard = none) (x : Operand) (ho : o.op = .buildSlice E.t 1 #[(0, x)]) (h : α) (hx : a.eval x = .agg (E.enc h).toArray)
    (hk : K (a.put o.dst (.slice (some ⟨w.heap.size, 0, none⟩) 1 1)) (w.alloc (.cells (E.enc h).toArray E.e))) :
    if Region.wanted o (yielded ops a.tmps) = true then Oper.wp Tryz.prog o a w K Q else E0 := by
  have hw : Region.wanted o (yielded ops a.tmps) = true := by simp [Region.wanted, hgd]
  rw [if_pos hw]
  unfold Oper.wp execOp
  simp only [ho, List.map_toArray, List.map_cons, List.map_nil, hx, E.bs1 w h, Sem.run_bind, Result.andThen_ok, Sem.run_pure]
  exact hk
theorem Ek.stepApp (E : Ek α) (hgd : o.guard = none) (s x : Operand)
    (ho : o.op = .call { callee := .builtin .append, args := #[s, x], argTypes := #[E.t, E.t] })
    (v : Value) (L : List α) (hs : a.eval s = v) (hown : OX E w v L)
    (ad : Addr) (h : α) (hx : a.eval x = .slice (some ad) 1 1) (hnews : ∀ j u, (flatE E [h])[j]? = some u → w.cell? (ad.add j) = some u) (hsm : (L.length + 1) * E.b ≤ 140737488355328) (h63 : L.length + 1 ≤ maxLen)
    (h : ∀ v' w', OX E w' v' (L ++ [h]) → Onto w w' v v' → K (a.put o.dst v') w') :
    if Region.wanted o (yielded ops a.tmps) = true then Oper.wp Tryz.prog o a w K Q else E0 := by
  have hw : Region.wanted o (yielded ops a.tmps) = true := by simp [Region.wanted, hgd]
  rw [if_pos hw]
  obtain ⟨v', w', hr, h2, h3⟩ := E.app (ty := o.type) hown ad 1 1 [_] rfl hnews hsm h63
  unfold Oper.wp execOp
  simp only [ho, resolve, invoke, builtin, Sem.run_bind, Sem.run_pure, Result.andThen_ok, List.map_toArray, List.map_cons, List.map_nil, hs, hx, hr]
  exact h v' w' h2 h3
end
section
variable {α : Type} {E : Ek α} {w : World}
theorem LX.news {ad : Addr} {n c : Nat} {L : List α} (h : LX E w (.slice (some ad) n c) L) : ∀ j u, (flatE E L)[j]? = some u → w.cell? (ad.add j) = some u := by
  intro j u hu
  have hj := (List.getElem?_eq_some_iff.1 hu).1
  rw [flatE_len] at hj
  have hk := E.kpos
  have hi : j / E.k < L.length := Nat.div_lt_of_lt_mul (by rw [Nat.mul_comm]; exact hj)
  have hr : j % E.k < E.k := Nat.mod_lt _ hk
  have e1 := flatE_at E L (j / E.k) hi (j % E.k) hr
  rw [show j / E.k * E.k + j % E.k = j by rw [Nat.mul_comm]; exact Nat.div_add_mod j E.k] at e1
  obtain ⟨g, off, e⟩ := h.base (Nat.lt_of_le_of_lt (Nat.zero_le _) hi)
  cases e
  have := h.range (j / E.k) hi (j % E.k) u (by rw [← e1]; exact hu)
  rw [show off + j / E.k * E.k + j % E.k = off + j by rw [Nat.add_assoc, Nat.mul_comm, Nat.div_add_mod]] at this
  have hadd : (⟨g, off, none⟩ : Addr).add j = ⟨g, off + j, none⟩ := by unfold Addr.add; split <;> simp_all
  rw [hadd]
  exact this
/-- An append of a whole list to none. -/
theorem Ek.all {ty : TypeId} {s : Value} {N : List α} (hs : LX E w s N) (hsm : N.length * E.b ≤ 140737488355328) (h63 : N.length ≤ maxLen)
    (h0 : ∀ c, (Builtin.append_ #[E.t, E.t] ty #[.slice none 0 0, .slice none 0 c]).run Tryz.prog w = .ok (.slice none 0 0) w) :
    ∃ v' w', (Builtin.append_ #[E.t, E.t] ty #[.slice none 0 0, s]).run Tryz.prog w = .ok v' w' ∧ OX E w' v' N ∧ Onto w w' (.slice none 0 0) v' := by
  obtain ⟨ao, cap, rfl⟩ := hs.form
  rcases ao with _ | ad
  · have hN : N = [] := by
      rcases N with _ | ⟨x, r⟩
      · rfl
      · obtain ⟨_, _, e⟩ := hs.base (by simp)
        cases e
    subst hN
    exact ⟨_, _, h0 cap, OX.nil w, Onto.refl _ _⟩
  · exact Ek.app (OX.nil w) ad N.length cap N rfl hs.news (by simpa using hsm) (by simpa using h63)
end
section
variable {α : Type} {w : World} {ops : Array Oper} {rest : List Oper} {o : Oper} {a : Act} {Q : Exit → Act → World → Prop}
theorem Ek.wpAll (E : Ek α) (hgd : o.guard = none) (x y : Operand)
    (ho : o.op = .call { callee := .builtin .append, args := #[x, y], argTypes := #[E.t, E.t] })
    (hx : a.eval x = .slice none 0 0)
    (s : Value) (N : List α) (hy : a.eval y = s) (hs : LX E w s N) (hsm : N.length * E.b ≤ 140737488355328) (h63 : N.length ≤ maxLen)
    (h0 : ∀ c, (Builtin.append_ #[E.t, E.t] o.type #[.slice none 0 0, .slice none 0 c]).run Tryz.prog w = .ok (.slice none 0 0) w)
    (h : ∀ v' w', OX E w' v' N → Onto w w' (.slice none 0 0) v' → wpList Tryz.prog ops Q rest (a.put o.dst v') w') :
    wpList Tryz.prog ops Q (o :: rest) a w := by
  refine wpList_plain hgd fun K hK => ?_
  obtain ⟨v', w', hr, h2, h3⟩ := Ek.all (ty := o.type) hs hsm h63 h0
  unfold Oper.wp execOp
  simp only [ho, resolve, invoke, builtin, Sem.run_bind, Sem.run_pure, Result.andThen_ok, List.map_toArray, List.map_cons, List.map_nil, hx, hy, hr]
  exact hK _ _ (h v' w' h2 h3)
end
theorem nilnilS (ty : TypeId) (w : World) (c : Nat) : (Builtin.append_ #[KS.t, KS.t] ty #[.slice none 0 0, .slice none 0 c]).run Tryz.prog w = .ok (.slice none 0 0) w := by kernel_rfl
theorem nilnilU (ty : TypeId) (w : World) (c : Nat) : (Builtin.append_ #[KU.t, KU.t] ty #[.slice none 0 0, .slice none 0 c]).run Tryz.prog w = .ok (.slice none 0 0) w := by kernel_rfl
theorem nilnilP (ty : TypeId) (w : World) (c : Nat) : (Builtin.append_ #[KP.t, KP.t] ty #[.slice none 0 0, .slice none 0 c]).run Tryz.prog w = .ok (.slice none 0 0) w := by kernel_rfl
/-! ### steps of a region that draws -/
section
variable {ops : Array Oper} {S : World → Prop} {o : Oper} {a : Act}
theorem yl_load (hw : Region.wanted o (yielded ops a.tmps) = true) {t : TypeId} (x : Operand) (ho : o.op = .load t x) (v : Value) (c : Array Value) (hx : a.eval x = v) (hr : ∀ W, S W → (Instr.loadAt t v).run Tryz.prog W = .ok (.agg c) W) : YieldsIf Tryz.prog ops S o (.agg c) a :=
  .inl ⟨hw, fun W hW => by
    unfold execOp
    simp only [ho, hx, hr W hW, Sem.run_bind, Result.andThen_ok, Sem.run_pure]⟩
theorem yl_build (hw : Region.wanted o (yielded ops a.tmps) = true) {t : TypeId} (x : Array (Nat × Operand)) (ho : o.op = .build t x) (y : Array (Nat × Value)) (c : Array Value) (hx : x.map (fun p => (p.1, a.eval p.2)) = y) (hr : ∀ W, (Instr.build t y).run Tryz.prog W = .ok (.agg c) W) : YieldsIf Tryz.prog ops S o (.agg c) a :=
  .inl ⟨hw, fun W hW => by
    unfold execOp
    simp only [ho, hx, hr W, Sem.run_bind, Result.andThen_ok, Sem.run_pure]⟩
theorem yl_move (hw : Region.wanted o (yielded ops a.tmps) = true) (x : Operand) (ho : o.op = .move x) (v : Value) (hx : a.eval x = v) : YieldsIf Tryz.prog ops S o v a :=
  .inl ⟨hw, fun W _ => by
    unfold execOp
    simp only [ho, hx, Sem.run_pure]⟩
end
section
variable {w : World} {ops : Array Oper} {o : Oper} {a : Act} {K : Act → World → Prop} {Q : Exit → Act → World → Prop} {E0 : Prop} {t : TypeId} {n : Nat} {z : Array Value}
theorem stepAllocA (A : Arr t n z) (hgd : o.guard = none) (ho : o.op = .alloc t) (h : K (a.put o.dst (.pointer (some ⟨w.heap.size, 0, none⟩))) (w.alloc (.cells z t))) : if Region.wanted o (yielded ops a.tmps) = true then Oper.wp Tryz.prog o a w K Q else E0 := by
  have hw : Region.wanted o (yielded ops a.tmps) = true := by simp [Region.wanted, hgd]
  rw [if_pos hw]
  unfold Oper.wp execOp
  simp only [ho, A.alloc, Sem.run_bind, Result.andThen_ok, Sem.run_pure]
  exact h
theorem stepStoreA (A : Arr t n z) (hgd : o.guard = none) (x y : Operand) (ho : o.op = .store t x y) (g : Nat) (c : Array Value) (hn : c.size = n) (h1 : c.all (·.oneCell') = true) (hx : a.eval x = .pointer (some ⟨g, 0, none⟩)) (hy : a.eval y = .agg c)
    (c0 : Array Value) (hn0 : c0.size = n) (t' : TypeId) (hg : w.heap[g]? = some (.cells c0 t' (0, 0))) (h : K (a.put o.dst undef) (w.setRow g c)) : if Region.wanted o (yielded ops a.tmps) = true then Oper.wp Tryz.prog o a w K Q else E0 := by
  have hw : Region.wanted o (yielded ops a.tmps) = true := by simp [Region.wanted, hgd]
  rw [if_pos hw]
  exact wp_store_row t x y ho g c hx hy t' c0 hg (by rw [A.info, hn]) (by rw [hn, hn0]) h1 h
end
/-! ### the first message that ref makes -/
theorem ip16' : ∀ (l : List UInt8), l.length = 16 → ∃ b0 b1 b2 b3 b4 b5 b6 b7 b8 b9 b10 b11 b12 b13 b14 b15, l = [b0, b1, b2, b3, b4, b5, b6, b7, b8, b9, b10, b11, b12, b13, b14, b15]
  | [b0, b1, b2, b3, b4, b5, b6, b7, b8, b9, b10, b11, b12, b13, b14, b15], _ => ⟨b0, b1, b2, b3, b4, b5, b6, b7, b8, b9, b10, b11, b12, b13, b14, b15, rfl⟩
theorem id32' : ∀ (l : List UInt8), l.length = 32 → ∃ b0 b1 b2 b3 b4 b5 b6 b7 b8 b9 b10 b11 b12 b13 b14 b15 b16 b17 b18 b19 b20 b21 b22 b23 b24 b25 b26 b27 b28 b29 b30 b31, l = [b0, b1, b2, b3, b4, b5, b6, b7, b8, b9, b10, b11, b12, b13, b14, b15, b16, b17, b18, b19, b20, b21, b22, b23, b24, b25, b26, b27, b28, b29, b30, b31]
  | [b0, b1, b2, b3, b4, b5, b6, b7, b8, b9, b10, b11, b12, b13, b14, b15, b16, b17, b18, b19, b20, b21, b22, b23, b24, b25, b26, b27, b28, b29, b30, b31], _ => ⟨b0, b1, b2, b3, b4, b5, b6, b7, b8, b9, b10, b11, b12, b13, b14, b15, b16, b17, b18, b19, b20, b21, b22, b23, b24, b25, b26, b27, b28, b29, b30, b31, rfl⟩
theorem run_bldR (m : Mg) (w : World) : (Instr.build 50 #[(0, .int .i64 m.kind), (1, .int .u32 (m.vers.toNat : Int)), (2, .int .u64 (m.serv.toNat : Int)), (3, .int .u64 (m.nonce.toNat : Int)), (4, .int .i64 m.time), (5, .agg m.dst.cells.toArray), (6, .agg m.src.cells.toArray), (7, .string m.agent), (8, .int .u32 (m.height.toNat : Int)), (9, .bool m.relay), (10, .bool m.high), (14, .agg (cellsL m.stop.1).toArray), (15, .agg (cellsL m.hash.1).toArray), (17, .string m.head), (18, .string m.raw)]).run Tryz.prog w = .ok (.agg (m.cells nil8).toArray) w := by
  obtain ⟨kind, vers, serv, nonce, time, ⟨t1, s1, ip1, p1, h1⟩, ⟨t2, s2, ip2, p2, h2⟩, agent, height, relay, high, addrs, items, hashes, ⟨st, hst⟩, ⟨ha, hha⟩, heads, head, raw, shorts, filled, places, raws⟩ := m
  obtain ⟨_, _, _, _, _, _, _, _, _, _, _, _, _, _, _, _, rfl⟩ := ip16' ip1 h1
  obtain ⟨_, _, _, _, _, _, _, _, _, _, _, _, _, _, _, _, rfl⟩ := ip16' ip2 h2
  obtain ⟨_, _, _, _, _, _, _, _, _, _, _, _, _, _, _, _, _, _, _, _, _, _, _, _, _, _, _, _, _, _, _, _, rfl⟩ := id32' st hst
  obtain ⟨_, _, _, _, _, _, _, _, _, _, _, _, _, _, _, _, _, _, _, _, _, _, _, _, _, _, _, _, _, _, _, _, rfl⟩ := id32' ha hha
  kernel_rfl
/-- A message's lists are no longer than memory is. -/
structure Mg.small (m : Mg) : Prop where
  a : m.addrs.length * 40 ≤ 140737488355328
  i : m.items.length * 36 ≤ 140737488355328
  h : m.hashes.length * 32 ≤ 140737488355328
  hd : m.heads.length * 16 ≤ 140737488355328
  sh : m.shorts.length * 8 ≤ 140737488355328
  f : m.filled.length * 24 ≤ 140737488355328
  p : m.places.length * 8 ≤ 140737488355328
  r : m.raws.length * 16 ≤ 140737488355328
theorem Mg.small.fit {m : Mg} (h : m.small) : m.fit := ⟨by have := h.a; omega, by have := h.i; omega, by have := h.h; omega, by have := h.hd; omega, by have := h.sh; omega, by have := h.f; omega, by have := h.p; omega, by have := h.r; omega⟩
end Go.Proofs.YtkoidjaaojmcnaaGreat
