/- Packets in pieces as data; (*reasm.Pool).forget. -/
import Derived.Test.YtnbagloifbllbaaRsC
namespace Go.Proofs.Ytnbagloifbllbaa
open Go.RowKit
/-- A piece, as data. -/
structure Pc where
  sr : Nat
  ds : Nat
  pr : Nat
  tt : Nat
  id : Nat
  dn : Bool
  mo : Bool
  of : Int
  bs : List Nat
def dat (q : Pk × List Nat) : Pc := ⟨q.1.sr, q.1.ds, q.1.pr, q.1.tt, q.1.id, q.1.dn, q.1.mo, q.1.of, q.2⟩
def absL (hs : List Pa) : List (Nm × List Pc) := hs.map (fun h => (h.t.nm, h.ps.map dat))
def sumD (L : List Pc) : Nat := (L.map (·.bs.length)).sum
def zeroD : Pc := ⟨0, 0, 0, 0, 0, false, false, 0, []⟩
def headD (L : List Pc) : Pc := L.foldl (fun z q => if q.of = 0 then q else z) zeroD
def bodyD (S : Nat) (L : List Pc) : List Nat := L.foldl (fun b q => lay b q.of.toNat q.bs) (List.replicate S 0)
theorem bodyD_dat (S : Nat) (ps : List (Pk × List Nat)) : bodyK S ps = bodyD S (ps.map dat) := by
  unfold bodyK bodyD
  rw [List.foldl_map]
  rfl
theorem sumD_dat (ps : List (Pk × List Nat)) (h : ∀ q ∈ ps, q.2.length = q.1.n) : sumK (ps.map (·.1)) = sumD (ps.map dat) := by
  unfold sumK sumD
  rw [List.map_map, List.map_map]
  congr 1
  apply List.map_congr_left
  intro q hq
  exact (h q hq).symm
theorem headD_dat (ps : List (Pk × List Nat)) : (headK ps).sr = (headD (ps.map dat)).sr ∧ (headK ps).ds = (headD (ps.map dat)).ds ∧ (headK ps).pr = (headD (ps.map dat)).pr ∧ (headK ps).tt = (headD (ps.map dat)).tt ∧ (headK ps).id = (headD (ps.map dat)).id ∧ (headK ps).dn = (headD (ps.map dat)).dn ∧ (headK ps).of = (headD (ps.map dat)).of := by
  have key : ∀ (ps : List (Pk × List Nat)) (x : Pk) (y : Pc), (x.sr = y.sr ∧ x.ds = y.ds ∧ x.pr = y.pr ∧ x.tt = y.tt ∧ x.id = y.id ∧ x.dn = y.dn ∧ x.of = y.of) →
      ((ps.foldl (fun z p => if p.1.of = 0 then p.1 else z) x).sr = ((ps.map dat).foldl (fun z q => if q.of = 0 then q else z) y).sr ∧ (ps.foldl (fun z p => if p.1.of = 0 then p.1 else z) x).ds = ((ps.map dat).foldl (fun z q => if q.of = 0 then q else z) y).ds ∧ (ps.foldl (fun z p => if p.1.of = 0 then p.1 else z) x).pr = ((ps.map dat).foldl (fun z q => if q.of = 0 then q else z) y).pr ∧ (ps.foldl (fun z p => if p.1.of = 0 then p.1 else z) x).tt = ((ps.map dat).foldl (fun z q => if q.of = 0 then q else z) y).tt ∧ (ps.foldl (fun z p => if p.1.of = 0 then p.1 else z) x).id = ((ps.map dat).foldl (fun z q => if q.of = 0 then q else z) y).id ∧ (ps.foldl (fun z p => if p.1.of = 0 then p.1 else z) x).dn = ((ps.map dat).foldl (fun z q => if q.of = 0 then q else z) y).dn ∧ (ps.foldl (fun z p => if p.1.of = 0 then p.1 else z) x).of = ((ps.map dat).foldl (fun z q => if q.of = 0 then q else z) y).of) := by
    intro ps
    induction ps with
    | nil => intro x y h; exact h
    | cons p ps ih =>
      intro x y h
      rw [List.map_cons, List.foldl_cons, List.foldl_cons]
      refine ih _ _ ?_
      by_cases h0 : p.1.of = 0
      · rw [if_pos h0, if_pos (show (dat p).of = 0 from h0)]
        exact ⟨rfl, rfl, rfl, rfl, rfl, rfl, rfl⟩
      · rw [if_neg h0, if_neg (show ¬ (dat p).of = 0 from h0)]
        exact h
  exact key ps zeroK zeroD ⟨rfl, rfl, rfl, rfl, rfl, rfl, rfl⟩
theorem map_erase {α β : Type} (f : α → β) (l : List α) (i : Nat) : (l.map f).eraseIdx i = (l.eraseIdx i).map f := by
  apply List.ext_getElem?
  intro k
  rw [List.getElem?_eraseIdx, List.getElem?_map, List.getElem?_map, List.getElem?_map, List.getElem?_eraseIdx]
  split <;> rfl
/-- A pool without one of its packets. -/
theorem PoolW.del {w w1 : World} {kd : Nat → Role} {p : Nat} {now dr : Int} {hs : List Pa} {a : Option Addr} {c : Nat} (h : PoolW w kd p now dr hs) (hc1 : Stc w p [.int .i64 now, .slice a hs.length c, .int .i64 dr]) (hrk : ∀ g, (Value.slice a hs.length c).ownBlock = some g → kd g = .row) {i : Nat} {x : Pa} (hi : hs[i]? = some x)
    (ho : OwnT w1 0 a (hs.length - 1) c ((hs.map (·.t)).eraseIdx i)) (hf : Fr (fun b => (Value.slice a hs.length c).ownBlock = some b) w w1) :
    PoolW (w1.setCell ⟨p, 1, none⟩ (.slice a (hs.length - 1) c)) kd p now dr (hs.eraseIdx i) ∧ Grow kd kd w (w1.setCell ⟨p, 1, none⟩ (.slice a (hs.length - 1) c)) := by
  have hil := (List.getElem?_eq_some_iff.1 hi).1
  have hkp := h.kp
  have hl : (hs.eraseIdx i).length = hs.length - 1 := by rw [List.length_eraseIdx]; rw [if_pos hil]
  have np : ¬ (Value.slice a hs.length c).ownBlock = some p := fun e => by have h1 := hrk p e; rw [hkp] at h1; cases h1
  have st1 := (hc1.fr hf np).set 1 (.slice a (hs.length - 1) c)
  have fr2 := (hf.mono (Q := fun b => b = p ∨ (Value.slice a hs.length c).ownBlock = some b) (fun k _ hk => .inr hk)).trans (Fr.setCell (fun b => b = p ∨ (Value.slice a hs.length c).ownBlock = some b) w1 ⟨p, 1, none⟩ (.slice a (hs.length - 1) c) (.inl rfl))
  have hQ : ∀ b, (b = p ∨ (Value.slice a hs.length c).ownBlock = some b) → kd b = .pool ∨ kd b = .row := by
    rintro b (rfl | hb)
    · exact .inl hkp
    · exact .inr (hrk b hb)
  have hown : ∀ m, (Value.slice a m c).ownBlock = (Value.slice a hs.length c).ownBlock := fun m => by cases a <;> rfl
  refine ⟨⟨hkp, ⟨a, c, ?_, ?_, fun g hg => ?_⟩, fun z hz => ?_, fun g hg => h.fresh g (Nat.le_trans fr2.size hg), ?_⟩, ⟨fun _ _ => rfl, fr2.mono (fun b _ hb => ?_)⟩⟩
  · rw [hl]; exact st1
  · rw [hl, ← map_erase]
    refine ho.fr (Fr.setCell (fun b => b = p) w1 ⟨p, 1, none⟩ _ rfl) (fun b hb e => ?_)
    rw [hown] at hb
    rw [e] at hb
    exact np hb
  · rw [hown] at hg; exact hrk g hg
  · refine (h.each z (List.mem_of_mem_eraseIdx hz)).fr fr2 (fun b _ hb => ?_) (fun _ _ _ => rfl)
    rcases hQ b hb with e | e <;> rw [e] <;> exact ⟨fun e => (by cases e), fun e => (by cases e)⟩
  · have : ((hs.eraseIdx i).map (·.t.nm)).Sublist (hs.map (·.t.nm)) := List.Sublist.map _ (List.eraseIdx_sublist hs i)
    exact this.nodup h.nodup
  · rcases hQ b hb with e | e <;> rw [e] <;> exact fun e => (by cases e)
structure FoP (kd : Nat → Role) (p : Nat) (now dr : Int) (hs : List Pa) (i : Nat) (w : World) (e : Ending) (w' : World) : Prop where
  ans : ∃ v, e = .returned v
  pool : PoolW w' kd p now dr (hs.eraseIdx i)
  gr : Grow kd kd w w'
set_option maxRecDepth 100000 in
set_option maxHeartbeats 1000000 in
theorem forget_any {w : World} {kd : Nat → Role} {p : Nat} {now dr : Int} {hs : List Pa} (h : PoolW w kd p now dr hs) (q sr ds pr id : Nat) (hq : Stc w q [.int .u32 (sr : Nat), .int .u32 (ds : Nat), .int .u8 (pr : Nat), .int .u16 (id : Nat)]) (hqk : kd q = .no) (i : Nat) (x : Pa) (hi : hs[i]? = some x) (hnm : x.t.nm = (sr, ds, pr, id)) :
    Calls Try.prog 40 #[.pointer (some ⟨p, 0, none⟩), .func (.func 49) #[] #[.pointer (some ⟨q, 0, none⟩)]] w (FoP kd p now dr hs i w) := by
  obtain ⟨a, c, hc1, hrow, hrk⟩ := h.cells
  have hil := (List.getElem?_eq_some_iff.1 hi).1
  have hlm := hrow.cap
  have hlb : hs.length ≤ 9223372036854775807 := by unfold maxLen at hlm; omega
  have hde := delT_one 49 #[.pointer (some ⟨q, 0, none⟩)] (fun x => decide (x.nm = (sr, ds, pr, id))) 0 a hs.length c (hs.map (·.t)) w hrow namedF (fun W hW x => namedc2 x q sr ds pr id W (hq.fr hW (fun e => by have h1 := hrk q e; rw [hqk] at h1; cases h1))) i x.t (by rw [List.getElem?_map, hi]; rfl) (by simp [hnm]) (fun j y hj hji => by
    rw [List.getElem?_map] at hj
    obtain ⟨z, hz, rfl⟩ := Option.map_eq_some_iff.1 hj
    have := nm_ne h.nodup hi hz hji
    rw [hnm] at this
    simp [this])
  have hpl := hc1.lt
  have np : ¬ (Value.slice a hs.length c).ownBlock = some p := fun e => by have h1 := hrk p e; rw [h.kp] at h1; cases h1
  have HD := fun w1 h1 h2 => h.del (w1 := w1) hc1 hrk hi h1 h2
  obtain ⟨n, hn⟩ : ∃ n, n = hs.length := ⟨_, rfl⟩
  rw [← hn] at hc1 hde HD np hlb hil
  clear hn hrow hrk
  have c1 := hc1.cell 1 _ rfl
  go_enter Try.func40, Try.ntmps40
  go_wp2_with fail
  refine hde.mono ?_
  rintro e w1 ⟨rfl, hrow1, hf1⟩
  have st1 := hc1.fr hf1 np
  have c11 := st1.cell 1 _ rfl
  have f11 := st1.free 1
  have hd := HD w1 hrow1 hf1
  have HFA : Hid (∀ v, FoP kd p now dr hs i w (.returned v) (w1.setCell ⟨p, 1, none⟩ (.slice a (n - 1) c))) := fun v => ⟨⟨v, rfl⟩, hd.1, hd.2⟩
  obtain ⟨k, hk⟩ : ∃ k, k = n - 1 := ⟨_, rfl⟩
  rw [← hk] at HFA ⊢
  clear hde HD hd c1 hrow1 hk
  go_wp2
  go_ret
  exact HFA.out _
end Go.Proofs.Ytnbagloifbllbaa
