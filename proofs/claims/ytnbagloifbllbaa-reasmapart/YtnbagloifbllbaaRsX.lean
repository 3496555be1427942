/- law11.ReasmWhole's add: the state that it turns. -/
import Derived.Test.YtnbagloifbllbaaRsW
import Derived.Test.YtnbagloifbllbaaRSp
import Derived.Test.YtnbagloifbllbaaIpSame
namespace Go.Proofs.Ytnbagloifbllbaa
open Go.RowKit
/-- The pieces that Split makes, as data. -/
def cutD (sr ds pr tt id K : Nat) (P : Nat → Nat) (zs : List Nat) (j : Nat) : Pc := ⟨sr, ds, pr, tt, id, false, decide (j + 1 < K), (P j : Int), (zs.drop (P j)).take (P (j + 1) - P j)⟩
theorem fam_cut (sr ds pr tt id : Nat) (zs : List Nat) (mtu : Int) (hlt : mtu - 20 < (zs.length : Int)) (hm : 28 ≤ mtu) (hs : zs.length ≤ 100000) : Fam (spK mtu zs.length) (spP mtu zs.length) zs (sr, ds, pr, id) (cutD sr ds pr tt id (spK mtu zs.length) (spP mtu zs.length) zs) := by
  obtain ⟨M, hM⟩ : ∃ M : Nat, mtu = ((M + 20 : Nat) : Int) := ⟨(mtu - 20).toNat, by omega⟩
  have hS : spS mtu = M / 8 * 8 := by unfold spS; rw [hM]; congr 2; omega
  obtain ⟨s, hs'⟩ : ∃ s, s = M / 8 * 8 := ⟨_, rfl⟩
  obtain ⟨n, hn⟩ : ∃ n, n = zs.length := ⟨_, rfl⟩
  have hPP : ∀ j, spP mtu zs.length j = min (j * s) n := fun j => by unfold spP; rw [if_neg (by omega), hS, ← hs', hn]
  have hK : spK mtu zs.length = cutN n s := by unfold spK; rw [if_neg (by omega), hS, ← hs', hn]
  obtain ⟨c1, c2⟩ := cut_last n s (by omega) (by omega)
  refine ⟨by rw [hK]; exact c2, by rw [hPP]; simp, by rw [hPP, hK]; omega, hs, fun j hj => ?_, fun j _ => rfl, fun j _ => rfl, fun j _ => rfl, fun j _ => rfl⟩
  rw [hPP, hPP]
  rw [hK] at hj
  have hjs : j * s < n := by
    cases j with
    | zero => simp; omega
    | succ j => exact (cut_more n s j (by omega) (by omega)).2 hj
  have e1 : (j + 1) * s = j * s + s := by rw [Nat.add_mul]; omega
  omega
/-- The state that add turns. -/
structure WhS (w0 w : World) (kd : Nat → Role) (br bl bt bf bp p gt : Nat) (sr ds pr tt id : Nat) (a : Option Addr) (c : Nat) (zs : List Nat) (la : Option Addr) (K lc : Nat) (ps : List Pk) (P : Nat → Nat) (mtu : Int) (A : List (Nm × List Pc)) (ks : List Nat) : Prop where
  bel : Below w0.heap.size w0 w
  pool : ∃ now dr hs, now ≤ 1 ∧ PoolW w kd p now dr hs ∧ absL hs = A
  cr : Stc w br [.pointer (some ⟨p, 0, none⟩)]
  cl : Stc w bl [.slice la K lc]
  ct : Stc w bt [.slice (some ⟨gt, 0, none⟩) K K]
  cf : Stc w bf [.int .i64 ((K - ks.length : Nat) : Int)]
  cp : Stc w bp [.int .u32 (sr : Nat), .int .u32 (ds : Nat), .int .u8 (pr : Nat), .int .u8 (tt : Nat), .int .u16 (id : Nat), .bool false, .bool false, .int .i64 0, .slice a zs.length c]
  row : OwnK w 0 la K lc ps
  pc : PcR w sr ds pr tt id false false 0 zs mtu P ps
  th : Stc w gt ((List.range K).map fun k => .bool (decide (k ∈ ks)))
  sl : Sl w a zs.length c zs
  ord : w0.heap.size ≤ bp ∧ bp < bl ∧ bl < p ∧ p < br ∧ br < gt ∧ gt < bt ∧ bt < bf
  hk : ∀ b, b ≤ bf → b ≠ p → kd b = .no
  rl : ∀ g, (Value.slice la K lc).ownBlock = some g → g < bl ∧ g ≠ bp
  xl : ∀ x ∈ ps, 0 < x.n → ∀ b off, x.a = some ⟨b, off, none⟩ → b < bl ∧ b ≠ bp
  al : 0 < zs.length → ∀ b off, a = some ⟨b, off, none⟩ → b < bp
  nd : ks.Nodup
  kb : ∀ k ∈ ks, k < K
theorem PcR.frX {w w' : World} {sr ds pr tt id : Nat} {dn mo : Bool} {of : Int} {zs : List Nat} {mtu : Int} {P : Nat → Nat} {ps : List Pk} {Q : Nat → Prop} (h : PcR w sr ds pr tt id dn mo of zs mtu P ps) (hf : Fr Q w w') (hq : ∀ x ∈ ps, 0 < x.n → ∀ b off, x.a = some ⟨b, off, none⟩ → ¬ Q b) : PcR w' sr ds pr tt id dn mo of zs mtu P ps :=
  ⟨h.p0, h.pK, fun j x hx => by
    obtain ⟨h1, h2, h3, h4, h5, h6, h7, h8, h9, h10⟩ := h.each j x hx
    exact ⟨h1, h2, h3, h4, h5, h6, h7, h8, Sl.frY h9 hf (hq x (List.mem_of_getElem? hx)), h10⟩⟩
section
variable {w0 w w' : World} {kd kd' : Nat → Role} {br bl bt bf bp p gt : Nat} {sr ds pr tt id : Nat} {a : Option Addr} {c : Nat} {zs : List Nat} {la : Option Addr} {K lc : Nat} {ps : List Pk} {P : Nat → Nat} {mtu : Int} {A A' : List (Nm × List Pc)} {ks : List Nat}
theorem WhS.lt (h : WhS w0 w kd br bl bt bf bp p gt sr ds pr tt id a c zs la K lc ps P mtu A ks) : bf < w.heap.size := h.cf.lt
/-- The pool goes on. -/
theorem WhS.grow (h : WhS w0 w kd br bl bt bf bp p gt sr ds pr tt id a c zs la K lc ps P mtu A ks) (hG : Grow kd kd' w w') (hp : ∃ now dr hs, now ≤ 1 ∧ PoolW w' kd' p now dr hs ∧ absL hs = A') : WhS w0 w' kd' br bl bt bf bp p gt sr ds pr tt id a c zs la K lc ps P mtu A' ks := by
  obtain ⟨o0, o1, o2, o3, o4, o5, o6⟩ := h.ord
  have hl := h.lt
  have hn : ∀ b, b ≤ bf → b ≠ p → ¬ (kd b ≠ .no) := fun b h1 h2 e => e (h.hk b h1 h2)
  have hbz := h.bel.size
  have hz := hG.fr.size
  refine ⟨⟨hG.fr.os.trans h.bel.os, hG.fr.tape.trans h.bel.tape, hG.fr.output.trans h.bel.output, Nat.le_trans hbz hz, fun k hk => (hG.fr.block k (by omega) (hn k (by omega) (by omega))).trans (h.bel.block k hk)⟩, hp, h.cr.fr hG.fr (hn br (by omega) (by omega)), h.cl.fr hG.fr (hn bl (by omega) (by omega)), h.ct.fr hG.fr (hn bt (by omega) (by omega)), h.cf.fr hG.fr (hn bf (by omega) (by omega)), h.cp.fr hG.fr (hn bp (by omega) (by omega)), (h.row.g.fr hG.fr (fun g hg => hn g (by have := h.rl g hg; omega) (by have := h.rl g hg; omega))).k, h.pc.frX hG.fr (fun x hx h0 b off hb => hn b (by have := h.xl x hx h0 b off hb; omega) (by have := h.xl x hx h0 b off hb; omega)), h.th.fr hG.fr (hn gt (by omega) (by omega)), Sl.frY h.sl hG.fr (fun h0 b off hb => hn b (by have := h.al h0 b off hb; omega) (by have := h.al h0 b off hb; omega)), h.ord, fun b h1 h2 => ?_, h.rl, h.xl, h.al, h.nd, h.kb⟩
  rw [hG.keep b (by omega)]
  exact h.hk b h1 h2
theorem WhS.below (h : WhS w0 w kd br bl bt bf bp p gt sr ds pr tt id a c zs la K lc ps P mtu A ks) (hb : Below w.heap.size w w') : WhS w0 w' kd br bl bt bf bp p gt sr ds pr tt id a c zs la K lc ps P mtu A ks := by
  refine h.grow (Grow.of_below hb) ?_
  obtain ⟨now, dr, hs, h1, h2, h3⟩ := h.pool
  exact ⟨now, dr, hs, h1, h2.below hb, h3⟩
/-- A piece is noted: there, and left. -/
theorem WhS.mark (h : WhS w0 w kd br bl bt bf bp p gt sr ds pr tt id a c zs la K lc ps P mtu A ks) {k : Nat} (hkK : k < K) (hk : k ∉ ks) : WhS w0 ((w.setCell ⟨gt, k, none⟩ (.bool true)).setCell ⟨bf, 0, none⟩ (.int .i64 ((K - (ks.length + 1) : Nat) : Int))) kd br bl bt bf bp p gt sr ds pr tt id a c zs la K lc ps P mtu A (ks ++ [k]) := by
  obtain ⟨o0, o1, o2, o3, o4, o5, o6⟩ := h.ord
  have hl := h.lt
  have hbz := h.bel.size
  obtain ⟨v, hv⟩ : ∃ v, v = Value.int .i64 ((K - (ks.length + 1) : Nat) : Int) := ⟨_, rfl⟩
  rw [← hv]
  have f1 := Fr.setCell (fun b => b = gt ∨ b = bf) w ⟨gt, k, none⟩ (.bool true) (.inl rfl)
  have f2 := f1.trans (Fr.setCell (fun b => b = gt ∨ b = bf) (w.setCell ⟨gt, k, none⟩ (.bool true)) ⟨bf, 0, none⟩ v (.inr rfl))
  have hn : ∀ b, b ≠ gt → b ≠ bf → ¬ (b = gt ∨ b = bf) := fun b h1 h2 e => by rcases e with e | e; exact h1 e; exact h2 e
  have hth := (h.th.set k (.bool true)).other bf 0 v (by omega)
  have hcf := (h.cf.other gt k (.bool true) (by omega)).set 0 v
  refine ⟨⟨f2.os.trans h.bel.os, f2.tape.trans h.bel.tape, f2.output.trans h.bel.output, Nat.le_trans hbz f2.size, fun q hq => (f2.block q (by omega) (hn q (by omega) (by omega))).trans (h.bel.block q hq)⟩, ?_, h.cr.fr f2 (hn br (by omega) (by omega)), h.cl.fr f2 (hn bl (by omega) (by omega)), h.ct.fr f2 (hn bt (by omega) (by omega)), ?_, h.cp.fr f2 (hn bp (by omega) (by omega)), (h.row.g.fr f2 (fun g hg => hn g (by have := h.rl g hg; omega) (by have := h.rl g hg; omega))).k, h.pc.frX f2 (fun x hx h0 b off hb => hn b (by have := h.xl x hx h0 b off hb; omega) (by have := h.xl x hx h0 b off hb; omega)), ?_, Sl.frY h.sl f2 (fun h0 b off hb => hn b (by have := h.al h0 b off hb; omega) (by have := h.al h0 b off hb; omega)), h.ord, h.hk, h.rl, h.xl, h.al, ?_, ?_⟩
  · obtain ⟨now, dr, hs, h1, h2, h3⟩ := h.pool
    refine ⟨now, dr, hs, h1, h2.fr f2 (fun b _ hb => ?_), h3⟩
    rcases hb with rfl | rfl
    · exact h.hk _ (by omega) (by omega)
    · exact h.hk _ (by omega) (by omega)
  · rw [List.length_append, hv] at *
    exact hcf
  · have e : ((List.range K).map fun j => Value.bool (decide (j ∈ ks))).set k (.bool true) = (List.range K).map fun j => .bool (decide (j ∈ ks ++ [k])) := by
      apply List.ext_getElem?
      intro j
      rw [List.getElem?_set, List.getElem?_map, List.getElem?_map]
      by_cases hjk : k = j
      · subst hjk
        rw [if_pos rfl, if_pos (by simpa using hkK), List.getElem?_range hkK]
        simp
      · rw [if_neg hjk]
        by_cases hj : j < K
        · rw [List.getElem?_range hj]
          simp [Ne.symm hjk]
        · rw [List.getElem?_eq_none (by simpa using hj)]
          rfl
    rw [e] at hth
    exact hth
  · rw [List.nodup_append]
    exact ⟨h.nd, by simp, fun x hx y hy e => hk (by simp at hy; rw [← hy, ← e]; exact hx)⟩
  · intro j hj
    rcases List.mem_append.1 hj with hj | hj
    · exact h.kb j hj
    · simp at hj; omega
theorem WhS.thAt (h : WhS w0 w kd br bl bt bf bp p gt sr ds pr tt id a c zs la K lc ps P mtu A ks) {k : Nat} (hk : k < K) : w.cell? ⟨gt, k, none⟩ = some (.bool (decide (k ∈ ks))) :=
  h.th.cell k _ (by rw [List.getElem?_map, List.getElem?_range hk]; rfl)
end
end Go.Proofs.Ytnbagloifbllbaa
