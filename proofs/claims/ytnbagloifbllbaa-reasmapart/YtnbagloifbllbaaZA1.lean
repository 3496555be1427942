/- A row of bools, as it lies in a world. -/
import Derived.Test.YtnbagloifbllbaaRsZ
import Derived.Test.YtnbagloifbllbaaOwnGS
import Derived.Test.YtnbagloifbllbaaRgZ
import Derived.Test.YtnbagloifbllbaaProg
import Derived.Test.YtnbagloifbllbaaBase
import Derived.Deep.Grids
import Derived.RowKit
import Derived.ChangeSlices
import Derived.SizedLaws
import Derived.ProofKit
import Derived.OpenShut
namespace Go.Proofs.Ytnbagloifbllbaa
open Go.RowKit
def partD (K : Nat) (D : Nat → Pc) (i : Nat) : List Pc := if i = K ∨ K = 1 then [] else (List.range i).map D
def okNm (A : List (Nm × List Pc)) : Prop := ∀ e ∈ A, (e.1 = (0, 0, 0, 1) ∨ e.1 = (0, 0, 0, 2)) ∧ e.2.length ≤ 1000
theorem find_map_other (A : List (Nm × List Pc)) (nm nm' : Nm) (L : List Pc) (hne : nm' ≠ nm) : (A.map (fun e => if e.1 = nm then (nm, L) else e)).find? (fun e => decide (e.1 = nm')) = A.find? (fun e => decide (e.1 = nm')) := by
  induction A with
  | nil => rfl
  | cons e A ih =>
    rw [List.map_cons]
    by_cases h : e.1 = nm
    · rw [if_pos h, List.find?_cons_of_neg (by simp [Ne.symm hne]), List.find?_cons_of_neg (by rw [h]; simp [Ne.symm hne])]
      exact ih
    · rw [if_neg h]
      by_cases h' : e.1 = nm'
      · rw [List.find?_cons_of_pos (by simp [h']), List.find?_cons_of_pos (by simp [h'])]
      · rw [List.find?_cons_of_neg (by simp [h']), List.find?_cons_of_neg (by simp [h'])]
        exact ih
theorem look_put (A : List (Nm × List Pc)) (nm nm' : Nm) (L : List Pc) : lookD (putD A nm L) nm' = if nm' = nm then L else lookD A nm' := by
  unfold lookD putD
  by_cases hne : nm' = nm
  · subst hne
    rw [if_pos rfl]
    by_cases h : A.any (fun e => decide (e.1 = nm')) = true
    · rw [if_pos h]
      have : (A.map (fun e => if e.1 = nm' then (nm', L) else e)).find? (fun e => decide (e.1 = nm')) = some (nm', L) := by
        induction A with
        | nil => simp at h
        | cons e A ih =>
          rw [List.map_cons]
          by_cases he : e.1 = nm'
          · rw [if_pos he, List.find?_cons_of_pos (by simp)]
          · rw [if_neg he, List.find?_cons_of_neg (by simp [he])]
            refine ih ?_
            rw [List.any_cons] at h
            simpa [he] using h
      rw [this]
      rfl
    · rw [if_neg h]
      have hn : A.find? (fun e => decide (e.1 = nm')) = none := by
        rw [List.find?_eq_none]
        rw [Bool.not_eq_true, List.any_eq_false] at h
        exact h
      rw [List.find?_append, hn]
      simp
  · rw [if_neg hne]
    by_cases h : A.any (fun e => decide (e.1 = nm)) = true
    · rw [if_pos h, find_map_other A nm nm' L hne]
    · rw [if_neg h, List.find?_append]
      cases hf : A.find? (fun e => decide (e.1 = nm')) with
      | none => simp [Ne.symm hne]
      | some e => simp
theorem look_del (A : List (Nm × List Pc)) (nm nm' : Nm) : lookD (delD A nm) nm' = if nm' = nm then [] else lookD A nm' := by
  unfold lookD delD
  by_cases hne : nm' = nm
  · subst hne
    rw [if_pos rfl, List.find?_eq_none.2 (fun e he => by
      rw [List.mem_filter] at he
      simpa using he.2)]
    rfl
  · rw [if_neg hne]
    have : (A.filter (fun e => !decide (e.1 = nm))).find? (fun e => decide (e.1 = nm')) = A.find? (fun e => decide (e.1 = nm')) := by
      induction A with
      | nil => rfl
      | cons e A ih =>
        by_cases h : e.1 = nm
        · rw [List.filter_cons_of_neg (by simp [h]), List.find?_cons_of_neg (by rw [h]; simp [Ne.symm hne])]
          exact ih
        · rw [List.filter_cons_of_pos (by simp [h])]
          by_cases h' : e.1 = nm'
          · rw [List.find?_cons_of_pos (by simp [h']), List.find?_cons_of_pos (by simp [h'])]
          · rw [List.find?_cons_of_neg (by simp [h']), List.find?_cons_of_neg (by simp [h'])]
            exact ih
    rw [this]
theorem okNm.put {A : List (Nm × List Pc)} (h : okNm A) {nm : Nm} (hn : nm = (0, 0, 0, 1) ∨ nm = (0, 0, 0, 2)) {L : List Pc} (hl : L.length ≤ 1000) : okNm (putD A nm L) := by
  intro e he
  unfold putD at he
  split at he
  · obtain ⟨x, hx, rfl⟩ := List.mem_map.1 he
    split
    · exact ⟨hn, hl⟩
    · exact h x hx
  · rcases List.mem_append.1 he with he | he
    · exact h e he
    · rw [List.mem_singleton] at he
      subst he
      exact ⟨hn, hl⟩
theorem okNm.del {A : List (Nm × List Pc)} (h : okNm A) (nm : Nm) : okNm (delD A nm) := fun e he => h e (List.mem_filter.1 he).1
theorem okNm.len {w : World} {kd : Nat → Role} {p : Nat} {now dr : Int} {hs : List Pa} (hP : PoolW w kd p now dr hs) (h : okNm (absL hs)) : hs.length ≤ 2 := by
  have hn := hP.nodup
  have hm : ∀ z ∈ hs, z.t.nm = (0, 0, 0, 1) ∨ z.t.nm = (0, 0, 0, 2) := fun z hz => (h (z.t.nm, z.ps.map dat) (List.mem_map.2 ⟨z, hz, rfl⟩)).1
  match hs, hn, hm with
  | [], _, _ => simp
  | [_], _, _ => simp
  | [_, _], _, _ => simp
  | x :: y :: z :: r, hn, hm =>
    exfalso
    have hx := hm x (by simp)
    have hy := hm y (by simp)
    have hz := hm z (by simp)
    simp at hn
    rcases hx with hx | hx <;> rcases hy with hy | hy <;> rcases hz with hz | hz <;> simp [hx, hy, hz] at hn
/-- What is told behind one more piece of a packet. -/
structure ApP (kd : Nat → Role) (p : Nat) (dr : Int) (hs : List Pa) (K idn : Nat) (D : Nat → Pc) (zs : List Nat) (i : Nat) (w : World) (e : Ending) (w' : World) : Prop where
  ans : ∃ kd' hs', PoolW w' kd' p 0 dr hs' ∧ Grow kd kd' w w' ∧ okNm (absL hs') ∧ lookD (absL hs') (0, 0, 0, idn) = partD K D (i + 1) ∧ (∀ nm', nm' ≠ (0, 0, 0, idn) → lookD (absL hs') nm' = lookD (absL hs) nm') ∧
    ((i + 1 < K ∧ e = .returned (.tuple #[.agg #[.int .u32 0, .int .u32 0, .int .u8 0, .int .u8 0, .int .u16 0, .bool false, .bool false, .int .i64 0, .slice none 0 0], .bool false, .int .i64 0])) ∨
      (i + 1 = K ∧ ∃ a2 c2, e = .returned (.tuple #[.agg #[.int .u32 0, .int .u32 0, .int .u8 0, .int .u8 0, .int .u16 (idn : Nat), .bool false, .bool false, .int .i64 0, .slice a2 zs.length c2], .bool true, .int .i64 0]) ∧ Sl w' a2 zs.length c2 zs ∧ ∀ b off, a2 = some ⟨b, off, none⟩ → kd' b = .no ∧ w.heap.size ≤ b ∧ b < w'.heap.size))
set_option maxRecDepth 100000 in
set_option maxHeartbeats 1000000 in
theorem ap_step {w W : World} {kd : Nat → Role} {p : Nat} {dr : Int} {hs : List Pa} {K idn : Nat} {P : Nat → Nat} {zs : List Nat} {mtu : Int} {ps : List Pk} {i : Nat} (hP : PoolW w kd p 0 dr hs) (hok : okNm (absL hs)) (hlk : lookD (absL hs) (0, 0, 0, idn) = partD K (cutD 0 0 0 0 idn K P zs) i) (hid : idn = 1 ∨ idn = 2) (hpc : PcR w 0 0 0 0 idn false false 0 zs mtu P ps) (hK : ps.length = K) (hF : 2 ≤ K → Fam K P zs (0, 0, 0, idn) (cutD 0 0 0 0 idn K P zs)) (hz : zs.length ≤ 400) (hi : i < K) (x : Pk) (hx : ps[i]? = some x) (hxk : 0 < x.n → ∀ b off, x.a = some ⟨b, off, none⟩ → kd b = .no) (hW : Below w.heap.size w W) (v : Value) (hv : v = .agg x.cells.toArray) :
    Calls Try.prog 10 #[.pointer (some ⟨p, 0, none⟩), v, .int .i64 0] W (ApP kd p dr hs K idn (cutD 0 0 0 0 idn K P zs) zs i W) := by
  subst hv
  have hPW := hP.below hW
  have hidb : idn < 65536 := by omega
  obtain ⟨e1, e2, e3, e4, e5, e6, e7, e8, e9, e10, e11, e12, e13⟩ := hpc.each i x hx
  obtain ⟨xs, xd, xp, xt, xi, xn, xm, xo, xa, xl, xc⟩ := x
  simp only at e1 e2 e3 e4 e5 e6 e7 e8 e9 e10 e11 e12 e13 hxk
  subst e1 e2 e3 e4 e5 e6
  rw [hK] at e8
  obtain rfl : xm = decide (i + 1 < K) := by rw [e8]; simp
  obtain rfl : xo = ((P i : Nat) : Int) := by rw [e7]; simp
  have hnm : ((0, 0, 0, xi) : Nm) = (0, 0, 0, 1) ∨ ((0, 0, 0, xi) : Nm) = (0, 0, 0, 2) := by rcases hid with h | h <;> rw [h] <;> simp
  by_cases hK2 : 2 ≤ K
  · have hF := hF hK2
    have hinc := hF.inc i hi
    have hle := hF.le (j := i + 1) (by omega)
    have hxn : xl = P (i + 1) - P i := by omega
    obtain ⟨BY, hBY⟩ : ∃ BY, BY = (zs.drop (P i)).take xl := ⟨_, rfl⟩
    rw [← hBY] at e9
    have hD : (⟨0, 0, 0, 0, xi, false, decide (i + 1 < K), ((P i : Nat) : Int), BY⟩ : Pc) = cutD 0 0 0 0 xi K P zs i := by rw [hBY, hxn]; rfl
    have hpc' : P i ≠ 0 ∨ decide (i + 1 < K) = true := by
      by_cases h0 : i = 0
      · right; rw [h0]; simp; omega
      · left
        have := hF.inj hi (j := 0) (by omega)
        rw [hF.p0] at this
        exact fun e => h0 (this e)
    rw [show partD K (cutD 0 0 0 0 xi K P zs) i = (List.range i).map (cutD 0 0 0 0 xi K P zs) by unfold partD; rw [if_neg (by omega)]] at hlk
    have hbr : ∀ j ∈ List.range i, j < K := fun j hj => by simp at hj; omega
    have hbr2 : ∀ j ∈ List.range (i + 1), j < K := fun j hj => by simp at hj; omega
    have hLL : (List.range i).map (cutD 0 0 0 0 xi K P zs) ++ [cutD 0 0 0 0 xi K P zs i] = (List.range (i + 1)).map (cutD 0 0 0 0 xi K P zs) := by rw [List.range_succ, List.map_append]; rfl
    have hsum := hF.sum List.nodup_range hbr2
    have hcn := abs_counts hP (A := absL hs) rfl
    have hi5 : i + 1 ≤ 1000 := by
      have h2 : ∀ m, m ≤ K → m ≤ P m := by
        intro m
        induction m with
        | zero => intro _; omega
        | succ m ih => intro hm; have := ih (by omega); have := hF.inc m (by omega); omega
      have := h2 K (Nat.le_refl _)
      rw [hF.pK] at this
      omega
    have hcall := add_new hPW 0 0 0 0 xi false (decide (i + 1 < K)) (P i) xa xl xc BY 0 (by omega) (by omega) (by omega) (by omega) (by omega) (by omega) (by omega) hidb e12 (e9.below hW) (hxk (by omega)) (by omega) (by omega) hpc' (fun q hq => by
      rw [hlk] at hq
      obtain ⟨j, hj, rfl⟩ := List.mem_map.1 hq
      exact hF.bound (hbr j hj)) (by rw [hlk, hD, hF.anyS hi _ hbr]; simp) (fun q hq => by
      rw [hlk] at hq
      obtain ⟨j, hj, rfl⟩ := List.mem_map.1 hq
      rw [hD]
      exact hF.clash hi (hbr j hj) (by simp at hj; omega)) (.inl (by have := okNm.len hP hok; omega)) (hcn.2 1000000 (fun e he => by have := (hok e he).2; omega)) (by rw [hlk, hD, hLL]; omega) (by rw [hlk, hD, hLL]; exact hF.fit List.nodup_range hbr2)
    rw [hlk, hD, hLL] at hcall
    refine hcall.mono ?_
    rintro e w' ⟨kd', hs', hP', hG', hres⟩
    have hl1 : (List.range (i + 1)).length = i + 1 := by simp
    rcases hres with ⟨hn, rfl, hab⟩ | ⟨hw, hab, g, rfl, hsg, hkg, hgw⟩
    · have hlt : i + 1 < K := by
        have := hF.notWhole List.nodup_range hbr2 hn
        rw [hl1] at this
        omega
      refine ⟨kd', hs', hP', hG', by rw [hab]; exact hok.put hnm (by rw [List.length_map, hl1]; exact hi5), ?_, fun nm' hne => by rw [hab, look_put, if_neg hne], .inl ⟨hlt, rfl⟩⟩
      rw [hab, look_put, if_pos rfl]
      unfold partD
      rw [if_neg (by omega)]
    · have hKe : i + 1 = K := by
        have := hF.whole List.nodup_range hbr2 hw
        rw [hl1] at this
        exact this
      have hl2 : (List.range (i + 1)).length = K := by rw [hl1]; exact hKe
      rw [hF.head List.nodup_range hbr2 hl2, hsum.2.2 hl2]
      rw [hsum.2.2 hl2, hF.body List.nodup_range hbr2 hl2] at hsg
      refine ⟨kd', hs', hP', hG', by rw [hab]; exact hok.del _, ?_, fun nm' hne => by rw [hab, look_del, if_neg hne], .inr ⟨hKe, some ⟨g, 0, none⟩, zs.length, ?_, hsg, fun b off hb => ?_⟩⟩
      · rw [hab, look_del, if_pos rfl]
        unfold partD
        rw [if_pos (.inl hKe)]
      · unfold cutD
        rw [hF.p0]
        rfl
      · injection hb with hb
        injection hb with hb
        subst hb
        rcases hsg.at_ with h0 | ⟨b', off', e, hlt', _⟩
        · omega
        · injection e with e
          injection e with e
          subst e
          exact ⟨hkg, hgw, hlt'⟩
  · have hK1 : K = 1 := by omega
    obtain rfl : i = 0 := by omega
    have hp0 := hpc.p0
    have hpK := hpc.pK
    rw [hK, hK1] at hpK
    have hxn : xl = zs.length := by rw [hp0, hpK] at e10; omega
    have hby : (zs.drop (P 0)).take xl = zs := by rw [hp0, hxn]; simp
    rw [hby] at e9
    have hm0 : decide (0 + 1 < K) = false := by rw [hK1]; rfl
    have hcall := add_whole hPW 0 0 0 0 xi false xa xl xc zs 0 (by omega) (by omega) (by omega) (by omega) (by omega) (by omega) (by omega) hidb (by rw [hm0, hp0] at e12; exact e12) (e9.below hW) hxk (by omega)
    rw [hm0, hp0]
    refine hcall.mono ?_
    rintro e w' ⟨hP', hG', a2, c2, rfl, hsg, hbk⟩
    refine ⟨kd, hs, hP', hG', hok, ?_, fun _ _ => rfl, .inr ⟨by omega, a2, c2, rfl, hsg, hbk⟩⟩
    rw [hlk]
    unfold partD
    rw [if_pos (.inr hK1), if_pos (.inr hK1)]
end Go.Proofs.Ytnbagloifbllbaa
namespace Go.Proofs.Ytnbagloifbllbaa
open Go.RowKit
/-- A packet that came whole. -/
structure PkIs (w : World) (kd : Nat → Role) (ga : Option Addr) (x : Pk) (idn : Nat) (zs : List Nat) : Prop where
  eq : ∃ a2 c2, x = ⟨0, 0, 0, 0, idn, false, false, 0, a2, zs.length, c2⟩ ∧ Sl w a2 zs.length c2 zs
  no : ∀ b off, x.a = some ⟨b, off, none⟩ → kd b = .no ∧ b < w.heap.size ∧ ∀ g, ga = some ⟨g, 0, none⟩ → b ≠ g
/-- i pieces of the first and j of the second were added; G: what came whole. -/
structure ApS (w3 w : World) (kd : Nat → Role) (p : Nat) (dr : Int) (hs : List Pa) (K M : Nat) (D1 D2 : Nat → Pc) (za zb : List Nat) (i j : Nat) (ga : Option Addr) (gc : Nat) (G : List Pk) : Prop where
  bel : Below p w3 w
  pool : PoolW w kd p 0 dr hs
  low : ∀ b, b < p → kd b = .no
  ok : okNm (absL hs)
  l1 : lookD (absL hs) (0, 0, 0, 1) = partD K D1 i
  l2 : lookD (absL hs) (0, 0, 0, 2) = partD M D2 j
  got : OwnP w (p + 1) ga G.length gc G
  gk : ∀ g, (Value.slice ga G.length gc).ownBlock = some g → kd g = .no
  ids : (G.map (·.id)).Nodup
  each : ∀ x ∈ G, (i = K ∧ PkIs w kd ga x 1 za) ∨ (j = M ∧ PkIs w kd ga x 2 zb)
  cnt : G.length = (if i = K then 1 else 0) + (if j = M then 1 else 0)
theorem PkIs.fr {w w' : World} {kd kd' : Nat → Role} {ga : Option Addr} {x : Pk} {idn : Nat} {zs : List Nat} {Q : Nat → Prop} (h : PkIs w kd ga x idn zs) (hf : Fr Q w w') (hq : ∀ b, b < w.heap.size → kd b = .no → (∀ g, ga = some ⟨g, 0, none⟩ → b ≠ g) → ¬ Q b) (hk : ∀ b, b < w.heap.size → kd' b = kd b) : PkIs w' kd' ga x idn zs := by
  obtain ⟨a2, c2, rfl, hs⟩ := h.eq
  refine ⟨⟨a2, c2, rfl, hs.frX hf (fun b off hb => ?_)⟩, fun b off hb => ?_⟩
  · obtain ⟨h1, h2, h3⟩ := h.no b off hb
    exact hq b h2 h1 h3
  · obtain ⟨h1, h2, h3⟩ := h.no b off hb
    exact ⟨by rw [hk b h2]; exact h1, Nat.lt_of_lt_of_le h2 hf.size, h3⟩
theorem ApS.below {w3 w w' : World} {kd : Nat → Role} {p : Nat} {dr : Int} {hs : List Pa} {K M : Nat} {D1 D2 : Nat → Pc} {za zb : List Nat} {i j : Nat} {ga : Option Addr} {gc : Nat} {G : List Pk} (h : ApS w3 w kd p dr hs K M D1 D2 za zb i j ga gc G) (hb : Below w.heap.size w w') : ApS w3 w' kd p dr hs K M D1 D2 za zb i j ga gc G := by
  have hpl := h.pool.lt
  refine ⟨h.bel.trans (hb.mono (Nat.le_of_lt hpl)), h.pool.below hb, h.low, h.ok, h.l1, h.l2, h.got.below hb, h.gk, h.ids, fun x hx => ?_, h.cnt⟩
  rcases h.each x hx with ⟨h1, h2⟩ | ⟨h1, h2⟩
  · exact .inl ⟨h1, h2.fr (Q := fun _ => False) (Fr.of_below hb) (fun _ _ _ _ h => h) (fun _ _ => rfl)⟩
  · exact .inr ⟨h1, h2.fr (Q := fun _ => False) (Fr.of_below hb) (fun _ _ _ _ h => h) (fun _ _ => rfl)⟩
theorem own_some {a : Option Addr} {n c g : Nat} (h : a = some ⟨g, 0, none⟩) : (Value.slice a n c).ownBlock = some g := by
  subst h
  simp [Value.ownBlock]
/-- Behind Add of one more piece; nothing came whole. -/
theorem ApS.more {w3 w w' : World} {kd kd' : Nat → Role} {p : Nat} {dr : Int} {hs hs' : List Pa} {K M : Nat} {D1 D2 : Nat → Pc} {za zb : List Nat} {i j i' j' : Nat} {ga : Option Addr} {gc : Nat} {G : List Pk} (h : ApS w3 w kd p dr hs K M D1 D2 za zb i j ga gc G) (hP : PoolW w' kd' p 0 dr hs') (hG : Grow kd kd' w w') (hok : okNm (absL hs')) (h1 : lookD (absL hs') (0, 0, 0, 1) = partD K D1 i') (h2 : lookD (absL hs') (0, 0, 0, 2) = partD M D2 j') (hi : i = K → i' = K) (hj : j = M → j' = M) (hc : (i' = K → i = K) ∧ (j' = M → j = M)) : ApS w3 w' kd' p dr hs' K M D1 D2 za zb i' j' ga gc G := by
  have hpl := h.pool.lt
  have hb : Below p w w' := hG.fr.below p (Nat.le_of_lt hpl) (fun k hk => by
    by_cases h9 : k < p
    · exact absurd (h.low k h9) hk
    · omega)
  have hgl : ∀ g, (Value.slice ga G.length gc).ownBlock = some g → g < w.heap.size := fun g hg => (h.got.own.lt g hg).2
  have hp : ∀ {x idn zs}, PkIs w kd ga x idn zs → PkIs w' kd' ga x idn zs := fun hx => hx.fr hG.fr (fun b _ h1 _ hQ => hQ h1) hG.keep
  refine ⟨h.bel.trans hb, hP, fun b hb => ?_, hok, h1, h2, h.got.fr hG.fr (fun g hg hQ => hQ (h.gk g hg)), fun g hg => ?_, h.ids, fun x hx => ?_, ?_⟩
  · rw [hG.keep b (by omega)]; exact h.low b hb
  · rw [hG.keep g (hgl g hg)]; exact h.gk g hg
  · rcases h.each x hx with ⟨h1, h2⟩ | ⟨h1, h2⟩
    · exact .inl ⟨hi h1, hp h2⟩
    · exact .inr ⟨hj h1, hp h2⟩
  · rw [h.cnt]
    have e1 : (i = K) = (i' = K) := propext ⟨hi, hc.1⟩
    have e2 : (j = M) = (j' = M) := propext ⟨hj, hc.2⟩
    simp only [e1, e2]
theorem own_eq {w : World} {B : Nat} {G : List Pk} {a : Option Addr} {n c g : Nat} (h : OwnP w B a n c G) (hg : (Value.slice a n c).ownBlock = some g) : a = some ⟨g, 0, none⟩ := by
  rcases h.own.2 with ⟨h0, _⟩ | ⟨b, c', cs, h1, _⟩
  · rw [h0] at hg; cases hg
  · injection h1 with e1 e2 e3
    subst e1
    simp [Value.ownBlock] at hg
    subst hg
    rfl
/-- Behind Add of the last piece of one, and append of it to what came. -/
theorem ApS.came {w3 w w' w1 w2 : World} {kd kd' : Nat → Role} {p : Nat} {dr : Int} {hs hs' : List Pa} {K M : Nat} {D1 D2 : Nat → Pc} {za zb : List Nat} {i j i' j' : Nat} {ga : Option Addr} {gc : Nat} {G : List Pk} (h : ApS w3 w kd p dr hs K M D1 D2 za zb i j ga gc G) (hP : PoolW w' kd' p 0 dr hs') (hG : Grow kd kd' w w') (hok : okNm (absL hs')) (h1 : lookD (absL hs') (0, 0, 0, 1) = partD K D1 i') (h2 : lookD (absL hs') (0, 0, 0, 2) = partD M D2 j') (hi : i = K → i' = K) (hj : j = M → j' = M) (b1 : Below w'.heap.size w' w1)
    {idn : Nat} {zs : List Nat} {a2 : Option Addr} {c2 : Nat} (hs2 : Sl w' a2 zs.length c2 zs) (ha2 : ∀ b off, a2 = some ⟨b, off, none⟩ → kd' b = .no ∧ w.heap.size ≤ b ∧ b < w'.heap.size)
    (hy : (i' = K ∧ i ≠ K ∧ j' = j ∧ idn = 1 ∧ zs = za) ∨ (j' = M ∧ j ≠ M ∧ i' = i ∧ idn = 2 ∧ zs = zb))
    {g c' : Nat} (hown : OwnP w2 (p + 1) (some ⟨g, 0, none⟩) (G.length + 1) c' (G ++ [⟨0, 0, 0, 0, idn, false, false, 0, a2, zs.length, c2⟩])) (hgr : w1.grownBy w2 (Value.slice ga G.length gc).ownBlock) (hor : (Value.slice ga G.length gc).ownBlock = some g ∨ g = w1.heap.size) : ApS w3 w2 kd' p dr hs' K M D1 D2 za zb i' j' (some ⟨g, 0, none⟩) c' (G ++ [⟨0, 0, 0, 0, idn, false, false, 0, a2, zs.length, c2⟩]) := by
  have hpl := h.pool.lt
  have hpl' := hP.lt
  have hb : Below p w w' := hG.fr.below p (Nat.le_of_lt hpl) (fun k hk => by
    by_cases h9 : k < p
    · exact absurd (h.low k h9) hk
    · omega)
  have hol : ∀ k, (Value.slice ga G.length gc).ownBlock = some k → p + 1 ≤ k ∧ k < w.heap.size := fun k hk => h.got.own.lt k hk
  have hsz := hG.fr.size
  have hsz1 := b1.size
  have hf2 : Fr (fun k => (Value.slice ga G.length gc).ownBlock = some k) w1 w2 := Fr.grown hgr (fun k hk => hk)
  have hsz2 := hf2.size
  have bb2 : Below p w1 w2 := hf2.below p (by omega) (fun k hk => by have := (hol k hk).1; omega)
  have hkg : kd' g = .no := by
    rcases hor with h9 | h9
    · rw [hG.keep g (hol g h9).2]; exact h.gk g h9
    · exact hP.fresh g (by omega)
  have hpk : ∀ {x idn zs}, PkIs w kd ga x idn zs → PkIs w2 kd' (some ⟨g, 0, none⟩) x idn zs := fun {x idn zs} hx => by
    have hx1 : PkIs w' kd' ga x idn zs := hx.fr hG.fr (fun b _ h1 _ hQ => hQ h1) hG.keep
    have hx2 : PkIs w1 kd' ga x idn zs := hx1.fr (Q := fun _ => False) (Fr.of_below b1) (fun _ _ _ _ h => h) (fun _ _ => rfl)
    have hx3 : PkIs w2 kd' ga x idn zs := hx2.fr hf2 (fun b _ _ h3 hQ => h3 b (own_eq h.got hQ) rfl) (fun _ _ => rfl)
    refine ⟨hx3.eq, fun b off hb => ?_⟩
    obtain ⟨q1, q2, q3⟩ := hx3.no b off hb
    obtain ⟨_, q5, _⟩ := hx.no b off hb
    refine ⟨q1, q2, fun g' hg' => ?_⟩
    injection hg' with hg'
    injection hg' with hg'
    subst hg'
    rcases hor with h9 | h9
    · exact q3 _ (own_eq h.got h9)
    · omega
  have hnew : PkIs w2 kd' (some ⟨g, 0, none⟩) ⟨0, 0, 0, 0, idn, false, false, 0, a2, zs.length, c2⟩ idn zs := by
    refine ⟨⟨a2, c2, rfl, Sl.frX (hs2.below b1) hf2 (fun b off hb hQ => ?_)⟩, fun b off hb => ?_⟩
    · have := (ha2 b off hb).2.1
      have := (hol b hQ).2
      omega
    · obtain ⟨q1, q2, q3⟩ := ha2 b off hb
      refine ⟨q1, by omega, fun g' hg' => ?_⟩
      injection hg' with hg'
      injection hg' with hg'
      subst hg'
      rcases hor with h9 | h9
      · have := (hol _ h9).2
        omega
      · omega
  refine ⟨(h.bel.trans hb).trans ((b1.mono (by omega)).trans bb2), (hP.below b1).fr hf2 (fun k _ hQ => ?_), fun b hb => ?_, hok, h1, h2, by rw [List.length_append]; exact hown, fun k hk => ?_, ?_, fun x hx => ?_, ?_⟩
  · rw [hG.keep k (hol k hQ).2]; exact h.gk k hQ
  · rw [hG.keep b (by omega)]; exact h.low b hb
  · simp [Value.ownBlock] at hk
    rw [← hk]; exact hkg
  · rw [List.map_append, List.nodup_append]
    refine ⟨h.ids, by simp, fun u hu v hv e => ?_⟩
    simp at hv
    subst hv
    obtain ⟨x, hx, hxe⟩ := List.mem_map.1 hu
    rcases h.each x hx with ⟨q1, q2⟩ | ⟨q1, q2⟩
    · obtain ⟨_, _, hq, _⟩ := q2.eq
      rw [hq] at hxe
      simp at hxe
      rcases hy with ⟨_, y2, _⟩ | ⟨_, _, _, y4, _⟩
      · exact y2 q1
      · omega
    · obtain ⟨_, _, hq, _⟩ := q2.eq
      rw [hq] at hxe
      simp at hxe
      rcases hy with ⟨_, _, _, y4, _⟩ | ⟨_, y2, _⟩
      · omega
      · exact y2 q1
  · rcases List.mem_append.1 hx with hx | hx
    · rcases h.each x hx with ⟨q1, q2⟩ | ⟨q1, q2⟩
      · exact .inl ⟨hi q1, hpk q2⟩
      · exact .inr ⟨hj q1, hpk q2⟩
    · rw [List.mem_singleton] at hx
      subst hx
      rcases hy with ⟨y1, _, _, rfl, rfl⟩ | ⟨y1, _, _, rfl, rfl⟩
      · exact .inl ⟨y1, hnew⟩
      · exact .inr ⟨y1, hnew⟩
  · rw [List.length_append, h.cnt]
    rcases hy with ⟨y1, y2, y3, _, _⟩ | ⟨y1, y2, y3, _, _⟩
    · subst y3
      rw [if_pos y1, if_neg y2]
      simp
      omega
    · subst y3
      rw [if_pos y1, if_neg y2]
      simp
/-- All pieces were added: both are there. -/
theorem ApS.both {w3 w : World} {kd : Nat → Role} {p : Nat} {dr : Int} {hs : List Pa} {K M : Nat} {D1 D2 : Nat → Pc} {za zb : List Nat} {ga : Option Addr} {gc : Nat} {G : List Pk} (h : ApS w3 w kd p dr hs K M D1 D2 za zb K M ga gc G) : ∃ x y, PkIs w kd ga x 1 za ∧ PkIs w kd ga y 2 zb ∧ (G = [x, y] ∨ G = [y, x]) := by
  have hc := h.cnt
  rw [if_pos rfl, if_pos rfl] at hc
  match G, hc, h.each, h.ids with
  | [x, y], _, he, hn =>
    have hx := he x (by simp)
    have hy := he y (by simp)
    have hid : ∀ {x : Pk} {idn zs}, PkIs w kd ga x idn zs → x.id = idn := fun h => by obtain ⟨_, _, rfl, _⟩ := h.eq; rfl
    simp at hn
    rcases hx with ⟨_, hx⟩ | ⟨_, hx⟩ <;> rcases hy with ⟨_, hy⟩ | ⟨_, hy⟩
    · exact absurd (by rw [hid hx, hid hy]) hn
    · exact ⟨x, y, hx, hy, .inl rfl⟩
    · exact ⟨y, x, hy, hx, .inr rfl⟩
    · exact absurd (by rw [hid hx, hid hy]) hn
end Go.Proofs.Ytnbagloifbllbaa
namespace Go.Proofs.Ytnbagloifbllbaa
open Go.RowKit
/-- The state, some pieces being there, not all. -/
def WhP (w0 : World) (br bl bt bf bp p gt : Nat) (sr ds pr tt id : Nat) (a : Option Addr) (c : Nat) (zs : List Nat) (la : Option Addr) (K lc : Nat) (ps : List Pk) (P : Nat → Nat) (mtu : Int) (ks : List Nat) (W : World) : Prop := ks.length < K ∧ ∃ kd, WhS w0 W kd br bl bt bf bp p gt sr ds pr tt id a c zs la K lc ps P mtu (stA (sr, ds, pr, id) (ks.map (cutD sr ds pr tt id K P zs))) ks
/-- All are there: the pool is empty again. -/
def WhQ (w0 : World) (br bl bt bf bp p gt : Nat) (sr ds pr tt id : Nat) (a : Option Addr) (c : Nat) (zs : List Nat) (la : Option Addr) (K lc : Nat) (ps : List Pk) (P : Nat → Nat) (mtu : Int) (W : World) : Prop := ∃ kd ks, WhS w0 W kd br bl bt bf bp p gt sr ds pr tt id a c zs la K lc ps P mtu [] ks
def doneB (K k : Nat) (ks : List Nat) : Bool := decide (k ∉ ks ∧ ks.length + 1 = K)
def StepP (w0 : World) (br bl bt bf bp p gt : Nat) (sr ds pr tt id : Nat) (a : Option Addr) (c : Nat) (zs : List Nat) (la : Option Addr) (K lc : Nat) (ps : List Pk) (P : Nat → Nat) (mtu : Int) (ks : List Nat) (k : Nat) (t : Bool) (W : World) : Prop := (t = true → WhQ w0 br bl bt bf bp p gt sr ds pr tt id a c zs la K lc ps P mtu W) ∧ (t = false → ∃ ks', k ∈ ks' ∧ (∀ q ∈ ks, q ∈ ks') ∧ WhP w0 br bl bt bf bp p gt sr ds pr tt id a c zs la K lc ps P mtu ks' W)
theorem wh_any {w0 w : World} {br bl bt bf bp p gt : Nat} {sr ds pr tt id : Nat} {a : Option Addr} {c : Nat} {zs : List Nat} {la : Option Addr} {K lc : Nat} {ps : List Pk} {P : Nat → Nat} {mtu : Int} {ks : List Nat} (h : WhP w0 br bl bt bf bp p gt sr ds pr tt id a c zs la K lc ps P mtu ks w) (hF : 2 ≤ K → Fam K P zs (sr, ds, pr, id) (cutD sr ds pr tt id K P zs)) (hK : ps.length = K) (hz : zs.length ≤ 4096) (hsr : sr < 4294967296) (hds : ds < 4294967296) (hpr : pr < 256) (htt : tt < 256) (hid : id < 65536) (k : Nat) (hk : k < K) :
    Calls Try.prog 9 #[.int .i64 (k : Nat), .pointer (some ⟨br, 0, none⟩), .pointer (some ⟨bl, 0, none⟩), .pointer (some ⟨bt, 0, none⟩), .pointer (some ⟨bf, 0, none⟩), .pointer (some ⟨bp, 0, none⟩)] w fun e w' => e = .returned (.tuple #[.bool (doneB K k ks), .bool true]) ∧ StepP w0 br bl bt bf bp p gt sr ds pr tt id a c zs la K lc ps P mtu ks k (doneB K k ks) w' := by
  obtain ⟨hl, kd, hS⟩ := h
  by_cases hK2 : 2 ≤ K
  · refine (wh_step hS (hF hK2) hK hK2 hz hsr hds hpr htt hid k hk hl).mono ?_
    rintro e w' ⟨kd', ⟨hm, rfl, hS'⟩ | ⟨hm, hlt, rfl, hS'⟩ | ⟨hm, hKe, rfl, hS'⟩⟩
    · have hd : doneB K k ks = false := by unfold doneB; exact decide_eq_false (fun e => e.1 hm)
      rw [hd]
      exact ⟨rfl, fun e => (by cases e), fun _ => ⟨ks, hm, fun q hq => hq, hl, kd', hS'⟩⟩
    · have hd : doneB K k ks = false := by unfold doneB; exact decide_eq_false (fun e => by omega)
      rw [hd]
      exact ⟨rfl, fun e => (by cases e), fun _ => ⟨ks ++ [k], by simp, fun q hq => List.mem_append_left _ hq, by rw [List.length_append]; exact hlt, kd', hS'⟩⟩
    · have hd : doneB K k ks = true := by unfold doneB; exact decide_eq_true ⟨hm, hKe⟩
      rw [hd]
      exact ⟨rfl, fun _ => ⟨kd', _, hS'⟩, fun e => (by cases e)⟩
  · have hK1 : K = 1 := by omega
    obtain rfl : ks = [] := List.eq_nil_of_length_eq_zero (by omega)
    obtain rfl : k = 0 := by omega
    have hd : doneB K 0 [] = true := by unfold doneB; exact decide_eq_true ⟨by simp, by simp; omega⟩
    refine (wh_one hS hK hK1 hz hsr hds hpr htt hid).mono ?_
    rintro e w' ⟨rfl, kd', hS'⟩
    rw [hd]
    exact ⟨rfl, fun _ => ⟨kd', _, hS'⟩, fun e => (by cases e)⟩
end Go.Proofs.Ytnbagloifbllbaa
namespace Go.Proofs.Ytnbagloifbllbaa
open Go.RowKit
theorem slice_oneK (b off n c : Nat) (h : 1 ≤ n) (hc : n ≤ c) : ∃ a', (∀ w, (Instr.slice 28 (.slice (some ⟨b, off, none⟩) n c) (some (.int .i64 1)) none none).run Try.prog w = .ok (.slice (some a') (n - 1) (c - 1)) w) ∧ (1 < n → a' = ⟨b, off + 9, none⟩) := by
  refine ⟨if c = 1 then ⟨b, off, none⟩ else ⟨b, off + 9, none⟩, fun w => ?_, fun hx => by rw [if_neg (by omega)]⟩
  have := run_slice_l w 28 (P := Try.prog) (some ⟨b, off, none⟩) n c Try.underlying28 .i64 1 (by omega) (by omega)
  rw [this]
  have e9 : (sizeOf (Try.prog.elem 28)).run Try.prog w = .ok 9 w := by kernel_rfl
  rw [e9]
  simp only [Result.andThen, sliced]
  by_cases h9 : c = 1
  · simp [h9]
  · simp [h9, Addr.add]
structure ApR (a : Option Addr) (idn : Nat) (zs : List Nat) (W : World) (e : Ending) (w' : World) : Prop where
  ans : ∃ gl K lc ps P, e = .returned (.tuple #[.slice (some ⟨gl, 0, none⟩) K lc, .int .i64 0]) ∧ 1 ≤ K ∧ K ≤ 1000 ∧ K ≤ lc ∧ ps.length = K ∧ gl < w'.heap.size ∧ (∀ (j : Nat) (x : Pk), ps[j]? = some x → ∀ (i : Nat) u, x.cells[i]? = some u → w'.cell? ⟨gl, j * 9 + i, none⟩ = some u) ∧ PcR w' 0 0 0 0 idn false false 0 zs 40 P ps ∧ (2 ≤ K → Fam K P zs (0, 0, 0, idn) (cutD 0 0 0 0 idn K P zs)) ∧ (∀ x ∈ ps, 0 < x.n → ∀ b off, x.a = some ⟨b, off, none⟩ → b < W.heap.size)
  bel : Below W.heap.size W w'
theorem ap_split (idn : Nat) (a : Option Addr) (n c : Nat) (zs : List Nat) (W : World) (hsl : Sl W a n c zs) (hn : n ≤ 400) :
    Calls Try.prog 7 #[.agg #[.int .u32 0, .int .u32 0, .int .u8 0, .int .u8 0, .int .u16 (idn : Nat), .bool false, .bool false, .int .i64 0, .slice a n c], .int .i64 40] W (ApR a idn zs W) := by
  have hzl := hsl.len
  have hspE : spE false false 0 zs.length 40 = 0 := by
    have hmb : mbE false 0 zs.length = 0 := by unfold mbE; rw [if_neg (by simp), if_neg (by omega)]
    unfold spE
    rw [hmb, if_neg (by simp), if_neg (by omega)]
    split <;> simp
  refine (rsplit_any 0 0 0 0 idn false false 0 a n c zs 40 W hsl (by decide)).mono ?_
  rintro e w' ⟨⟨la, lc, ps, rfl, kR, _, hR, hadr⟩, b2⟩
  obtain ⟨hPc, hKl⟩ := hR hspE
  have hK1 : 1 ≤ ps.length := by
    rw [hKl]
    unfold spK
    split
    · exact Nat.le_refl _
    · rename_i h9
      exact (cut_last _ _ (by unfold spS; omega) (by omega)).2
  have hKb : ps.length ≤ 1000 := by
    rw [hKl]
    unfold spK
    split
    · omega
    · unfold cutN
      have : (zs.length + spS 40 - 1) / spS 40 ≤ zs.length + spS 40 - 1 := Nat.div_le_self _ _
      have : spS 40 ≤ 40 := by unfold spS; omega
      omega
  obtain ⟨gl, rfl, _, hgl, hc, _, hcell, _⟩ := kR.g.at_ (fun _ => rfl) hK1
  refine ⟨⟨gl, ps.length, lc, ps, spP 40 zs.length, by rw [hspE]; rfl, hK1, hKb, hc, rfl, hgl, hcell, hPc, fun hK2 => ?_, fun x hx h0 b off hb => ?_⟩, b2⟩
  · have hlt : (40 : Int) - 20 < (zs.length : Int) := by
      by_cases h9 : (zs.length : Int) ≤ (40 : Int) - 20
      · unfold spK at hKl
        rw [if_pos h9] at hKl
        omega
      · omega
    have := fam_cut 0 0 0 0 idn zs 40 hlt (by omega) (by omega)
    rw [← hKl] at this
    exact this
  · obtain ⟨off', hao⟩ := hadr x hx b off hb
    obtain ⟨j, hj⟩ := List.getElem?_of_mem hx
    obtain ⟨_, _, _, _, _, _, _, _, _, _, h11, _⟩ := hPc.each j x hj
    rcases hsl.at_ with h9 | ⟨b', off2, e, hlt, _⟩
    · omega
    · rw [hao] at e
      injection e with e
      injection e with e
      subst e
      exact hlt
/-- The loop: rows l and m behind i and j pieces, and what came. -/
structure ApL (w3 : World) (p gl gm K M : Nat) (D1 D2 : Nat → Pc) (za zb : List Nat) (i j : Nat) (kd : Nat → Role) (hs : List Pa) (lv mv gv iv : Value) (la : Option Addr) (lc : Nat) (ma : Option Addr) (mc : Nat) (ga : Option Addr) (gc : Nat) (G : List Pk) (wr : World) : Prop where
  lv : lv = .slice la (K - i) lc
  mv : mv = .slice ma (M - j) mc
  gv : gv = .slice ga G.length gc
  iv : iv = .int .i64 ((i + j : Nat) : Int)
  la : i < K → la = some ⟨gl, i * 9, none⟩
  ma : j < M → ma = some ⟨gm, j * 9, none⟩
  lc : K - i ≤ lc
  mc : M - j ≤ mc
  iK : i ≤ K
  jM : j ≤ M
  st : ApS w3 wr kd p 0 hs K M D1 D2 za zb i j ga gc G
def lenV : Value → Nat
  | .slice _ n _ => n
  | _ => 0
end Go.Proofs.Ytnbagloifbllbaa
namespace Go.Proofs.Ytnbagloifbllbaa
open Go.RowKit
def SeqOp (P : Program) (ops : Array Oper) (F Z : Array Value) (G : (Nat → Bool) → World → Prop) (i : Nat) (o : Oper) : Prop :=
  ∀ l w, l i = false → (∀ j, dirD ops i j = true → l j = true) → (∀ k j, ancD ops 12 k j = true → l k = true → l j = true) → G l w →
    (Region.wanted o (yielded ops F) = true ∧ GivesP P (Act.eval ⟨F, []⟩) o (fun v w' => (∀ d, o.dst = some d → v = Z.getD d undef) ∧ G (updL l i) w') w) ∨ (Region.wanted o (yielded ops F) = false ∧ (∀ d, o.dst = some d → undef = Z.getD d undef) ∧ G (updL l i) w)
@[reducible] def SeqAll (P : Program) (ops : Array Oper) (T Z : Array Value) (G : (Nat → Bool) → World → Prop) : Nat → List Bool → List Oper → Prop
  | _, _, [] => True
  | i, true :: bs, o :: os => SeqOp P ops T Z G i o ∧ SeqAll P ops T Z G (i + 1) bs os
  | i, false :: bs, o :: os => SeqOp P ops Z Z G i o ∧ SeqAll P ops T Z G (i + 1) bs os
  | i, [], o :: os => SeqOp P ops Z Z G i o ∧ SeqAll P ops T Z G (i + 1) [] os
def oldA (old : List Bool) (T Z : Array Value) (i : Nat) : Array Value := if old.getD i false = true then T else Z
theorem seqAll_at {P : Program} {ops : Array Oper} {T Z : Array Value} {G : (Nat → Bool) → World → Prop} : ∀ (os : List Oper) (old : List Bool) (k : Nat), SeqAll P ops T Z G k old os → ∀ i o, os[i]? = some o → SeqOp P ops (oldA old T Z i) Z G (k + i) o := by
  intro os
  induction os with
  | nil => intro old k _ i o h; simp at h
  | cons x os ih =>
    intro old k h i o ho
    match old, h with
    | [], h =>
      cases i with
      | zero => simp at ho; subst ho; exact h.1
      | succ i => rw [show k + (i + 1) = k + 1 + i by omega]; exact ih [] (k + 1) h.2 i o (by simpa using ho)
    | true :: bs, h =>
      cases i with
      | zero => simp at ho; subst ho; exact h.1
      | succ i => rw [show k + (i + 1) = k + 1 + i by omega]; exact ih bs (k + 1) h.2 i o (by simpa using ho)
    | false :: bs, h =>
      cases i with
      | zero => simp at ho; subst ho; exact h.1
      | succ i => rw [show k + (i + 1) = k + 1 + i by omega]; exact ih bs (k + 1) h.2 i o (by simpa using ho)
def chkO (ops : Array Oper) (old : List Bool) : Bool := (List.range ops.size).all fun i => match ops[i]? with
  | none => true
  | some o => (o.looksAt ops).all fun t => if old.getD i false then srcA ops i t else srcZ ops i t
theorem wp_region_seq {P : Program} {os : List Oper} {Q : Exit → Act → World → Prop} {id : Nat} {a : Act} {w : World} (hm : P.follows .mixedOrders = true) (old : List Bool) (G : (Nat → Bool) → World → Prop) (ws : List (Nat × Value)) (Z : Array Value)
    (hZ : ws.foldl (fun F p => F.setIfInBounds p.1 p.2) a.tmps = Z) (hok : okD os.toArray = true) (hchk : chkO os.toArray old = true) (hws : ws.map (·.1) = os.filterMap (·.dst)) (hin : (ws.all fun p => decide (p.1 < a.tmps.size)) = true)
    (h0 : G (fun _ => false) w.drew) (hops : SeqAll P os.toArray a.tmps Z G 0 old os) (he : ∀ l w, (∀ i, i < os.length → l i = true) → G l w → Q .normal ⟨Z, a.defers⟩ w) : (Code.region id os.toArray true).wp P Q a w := by
  have hsz : Z.size = a.tmps.size := by rw [← hZ, foldl_size]
  have hind : ∀ o ∈ os, ∀ d, o.dst = some d → d < Z.size := fun o ho d hd => by
    have h1 : d ∈ ws.map (·.1) := by rw [hws]; exact List.mem_filterMap.2 ⟨o, ho, hd⟩
    obtain ⟨p, hp, rfl⟩ := List.mem_map.1 h1
    rw [List.all_eq_true] at hin
    have := hin p hp
    rw [hsz]
    simpa using this
  have hb : ∀ k, (∀ o ∈ os, o.dst ≠ some k) → Z.getD k undef = a.tmps.getD k undef := fun k hk => by
    rw [← hZ, Array.getD_eq_getD_getElem?, Array.getD_eq_getD_getElem?, foldl_other ws _ k (fun p hp e => ?_)]
    have h1 : p.1 ∈ os.filterMap (·.dst) := by rw [← hws]; exact List.mem_map.2 ⟨p, hp, rfl⟩
    obtain ⟨o, ho, hod⟩ := List.mem_filterMap.1 h1
    exact hk o ho (by rw [hod, e])
  have hofs : ∀ {i : Nat} {o : Oper}, os.toArray[i]? = some o → os[i]? = some o := fun h => by simpa using h
  refine wp_region_inv hm (fun listed A W => FixI os.toArray a Z (fun _ => True) listed A W ∧ G (lst listed) W) ⟨⟨hsz.symm, rfl, fun i o _ h => ?_, fun i o d _ _ h => ?_, fun _ _ => rfl, trivial⟩, ?_⟩ (fun listed A W i hi hI => ?_) (fun listed A W hls hr hI => ?_)
  · exfalso; simp [Array.getElem?_replicate] at h; split at h <;> simp at h
  · exfalso; simp [Array.getElem?_replicate] at h; split at h <;> simp at h
  · have : lst (Array.replicate os.toArray.size false) = fun _ => false := by
      funext j
      unfold lst
      rw [Array.getD_eq_getD_getElem?, Array.getElem?_replicate]
      split <;> rfl
    rw [this]
    exact h0
  · obtain ⟨hI, hG⟩ := hI
    obtain ⟨o, ho, hl, hd⟩ := ready_spec hi
    have hsp := okD_spec hok ho
    have hop := seqAll_at os old 0 hops i o (hofs ho)
    rw [Nat.zero_add] at hop
    have hlf : lst listed i = false := getD_both hl
    obtain ⟨F, hF⟩ : ∃ F, F = oldA old a.tmps Z i := ⟨_, rfl⟩
    rw [← hF] at hop
    have hFs : F.size = Z.size := by rw [hF]; unfold oldA; split; exact hsz.symm; rfl
    have hval : ∀ t, t ∈ o.looksAt os.toArray → A.tmps.getD t undef = F.getD t undef := by
      intro t ht
      have h1 : (if old.getD i false then srcA os.toArray i t else srcZ os.toArray i t) = true := by
        unfold chkO at hchk
        rw [List.all_eq_true] at hchk
        have hil := (Array.getElem?_eq_some_iff.1 ho).1
        have h1 := hchk i (by simpa using hil)
        rw [ho] at h1
        dsimp only at h1
        rw [List.all_eq_true] at h1
        exact h1 t ht
      unfold oldA at hF
      cases hod : old.getD i false with
      | true =>
        rw [hod, if_pos rfl] at h1 hF
        rw [hF]
        refine hI.off t (fun j p hp hpt => ?_)
        have hjl := (Array.getElem?_eq_some_iff.1 hp).1
        unfold srcA at h1
        rw [List.all_eq_true] at h1
        have h3 := h1 j (by simpa using hjl)
        simp only [wrD, hp, Option.bind_some, hpt, beq_self_eq_true, Bool.not_true, Bool.false_or] at h3
        cases hlj : listed.getD j false with
        | false => rfl
        | true =>
          have := ancD_spec hI.cl 8 j i h3 hlj
          rw [getD_both hl] at this
          cases this
      | false =>
        rw [hod, if_neg (by decide)] at h1 hF
        rw [hF]
        by_cases hw : ∃ (j : Nat) (p : Oper), os.toArray[j]? = some p ∧ p.dst = some t
        · obtain ⟨j, p, hp, hpt⟩ := hw
          have hjl := (Array.getElem?_eq_some_iff.1 hp).1
          unfold srcZ at h1
          rw [List.all_eq_true] at h1
          have h3 := h1 j (by simpa using hjl)
          simp only [wrD, hp, Option.bind_some, hpt, beq_self_eq_true, Bool.not_true, Bool.false_or] at h3
          obtain ⟨e, he', hb', rfl⟩ := dirD_spec ho h3
          exact hI.on e.on p t hp hpt (hd e he' hb')
        · have h3 := hI.off t (fun j p hp hpt => absurd ⟨j, p, hp, hpt⟩ hw)
          rw [h3, hb t (fun p hp hpt => by
            obtain ⟨j, hj⟩ := List.getElem?_of_mem hp
            exact hw ⟨j, p, by simpa using hj, hpt⟩)]
    have hpl : ∀ cs b, o.op ≠ .select cs b := fun cs b e => by have := hsp.1; unfold plainD at this; rw [e] at this; cases this
    have hex : execOp A.eval o = execOp (Act.eval ⟨F, []⟩) o := execOp_congr o hpl (fun x hx => by
      cases x with
      | tmp t =>
        have ht : t ∈ o.looksAt os.toArray := List.mem_append_left _ (List.mem_filterMap.2 ⟨.tmp t, by simpa using hx, rfl⟩)
        simpa [Act.eval] using hval t ht
      | _ => rfl)
    have hwa : Region.wanted o (yielded os.toArray A.tmps) = Region.wanted o (yielded os.toArray F) := by
      unfold Region.wanted
      cases hg : o.guard with
      | none => rfl
      | some gw =>
        obtain ⟨g, want⟩ := gw
        have hy : yielded os.toArray A.tmps g = yielded os.toArray F g := by
          unfold yielded
          cases ht : (os.toArray[g]?).bind (·.dst) with
          | none => rfl
          | some t =>
            have hlk : t ∈ o.looksAt os.toArray := by simp only [Oper.looksAt, hg, ht]; simp
            have := getElem?_of_getD (hI.sz.trans hFs.symm) (hval t hlk)
            simp only [Option.bind_some, this]
        simp only [hy]
    have hnext : ∀ v w', ((∀ d, o.dst = some d → v = Z.getD d undef) ∧ G (updL (lst listed) i) w') → FixI os.toArray a Z (fun _ => True) (listed.setIfInBounds i true) (A.put o.dst v) w' ∧ G (lst (listed.setIfInBounds i true)) w' := by
      rintro v w' ⟨h2, h3⟩
      refine ⟨(hI.par (Z' := Z) (w' := w') rfl (fun _ _ _ _ _ _ => rfl)).put hok ho hl hd v h2 (fun d hd' => hind o (List.mem_of_getElem? (hofs ho)) d hd') trivial, ?_⟩
      rw [lst_set hl]
      exact h3
    have hcl : ∀ k j, ancD os.toArray 12 k j = true → lst listed k = true → lst listed j = true := fun k j h1 h2 => ancD_spec hI.cl 12 k j h1 h2
    have hdep : ∀ j, dirD os.toArray i j = true → lst listed j = true := fun j hj => by
      obtain ⟨e, he', hb', rfl⟩ := dirD_spec ho hj
      exact hd e he' hb'
    unfold wpOp
    rw [ho]
    dsimp only
    rw [hwa]
    rcases hop (lst listed) W hlf hdep hcl hG with ⟨hw, hgv⟩ | ⟨hw, hnx⟩
    · rw [if_pos hw]
      refine .inl ?_
      unfold Oper.wp
      rw [hex]
      unfold GivesP at hgv
      generalize (execOp (Act.eval ⟨F, []⟩) o).run P W = r at *
      cases r with
      | ok n w' =>
        cases n with
        | value u => exact hnext _ _ hgv
        | skip => exact hnext _ _ hgv
        | enter f args =>
          refine Calls.mono hgv (fun e w'' hp => ?_)
          obtain ⟨v, rfl, hR⟩ := hp
          exact hnext _ _ hR
        | _ => exact hgv.elim
      | halt x w' => exact hgv.elim
    · rw [if_neg (by rw [hw]; decide)]
      exact hnext _ _ hnx
  · obtain ⟨hI, hG⟩ := hI
    have hall : ∀ i o, os.toArray[i]? = some o → listed.getD i false = true := by
      intro i
      induction i using Nat.strongRecOn with
      | _ i ih =>
        intro o ho
        refine all_listed hls hr i o ho (fun e he' hb' => ?_)
        have hlt := (okD_spec hok ho).2.1 e he' hb'
        have hil := (Array.getElem?_eq_some_iff.1 ho).1
        obtain ⟨p, hp⟩ : ∃ p, os.toArray[e.on]? = some p := ⟨_, Array.getElem?_eq_getElem (by omega)⟩
        exact ih e.on hlt p hp
    have hA : A = ⟨Z, a.defers⟩ := by
      obtain ⟨t, d⟩ := A
      have h1 := hI.sz
      have h2 := hI.df
      dsimp only at h1 h2
      subst h2
      congr 1
      apply Array.ext_getElem?
      intro k
      refine getElem?_of_getD h1 ?_
      by_cases hw : ∃ (j : Nat) (p : Oper), os.toArray[j]? = some p ∧ p.dst = some k
      · obtain ⟨j, p, hp, hpk⟩ := hw
        exact hI.on j p k hp hpk (hall j p hp)
      · have h3 := hI.off k (fun j p hp hpk => absurd ⟨j, p, hp, hpk⟩ hw)
        rw [h3, hb k (fun p hp hpt => by
          obtain ⟨j, hj⟩ := List.getElem?_of_mem hp
          exact hw ⟨j, p, by simpa using hj, hpt⟩)]
    rw [hA]
    exact he (lst listed) W (fun i hi => by
      obtain ⟨o, ho⟩ : ∃ o, os.toArray[i]? = some o := ⟨_, Array.getElem?_eq_getElem (by simpa using hi)⟩
      exact hall i o ho) hG
section
variable {P : Program} {ops : Array Oper} {F Z : Array Value} {G : (Nat → Bool) → World → Prop} {i : Nat} {o : Oper}
theorem seq_val (hw : Region.wanted o (yielded ops F) = true) (hG : ∀ l w, G l w → G (updL l i) w)
    (h : ∀ l w, l i = false → (∀ k j, ancD ops 12 k j = true → l k = true → l j = true) → G l w → (execOp (Act.eval ⟨F, []⟩) o).run P w = .ok (.value ((o.dst.map (fun d => Z.getD d undef)).getD undef)) w) : SeqOp P ops F Z G i o := by
  intro l w hl hd hc hg
  refine .inl ⟨hw, ?_⟩
  unfold GivesP
  rw [h l w hl hc hg]
  exact ⟨fun d hd' => by rw [hd']; rfl, hG l w hg⟩
theorem seq_skip (hw : Region.wanted o (yielded ops F) = true) (hdst : o.dst = none)
    (h : ∀ l w, l i = false → (∀ j, dirD ops i j = true → l j = true) → (∀ k j, ancD ops 12 k j = true → l k = true → l j = true) → G l w → ∃ w', (execOp (Act.eval ⟨F, []⟩) o).run P w = .ok .skip w' ∧ G (updL l i) w') : SeqOp P ops F Z G i o := by
  intro l w hl hd hc hg
  obtain ⟨w', h1, h2⟩ := h l w hl hd hc hg
  refine .inl ⟨hw, ?_⟩
  unfold GivesP
  rw [h1]
  exact ⟨fun d hd' => (by rw [hdst] at hd'; cases hd'), h2⟩
end
end Go.Proofs.Ytnbagloifbllbaa
namespace Go.Proofs.Ytnbagloifbllbaa
open Go.RowKit Go.ChangeShapes Go.WideShapes Go.ChangeAt
structure SlBo (w : World) (a : Option Addr) (n c : Nat) (dd : List Bool) : Prop where
  len : dd.length = n
  cap : n ≤ c
  small : n ≤ 281474976710656
  at_ : n = 0 ∨ ∃ b off, a = some ⟨b, off, none⟩ ∧ b < w.heap.size ∧ ∀ i x, dd[i]? = some x → w.cell? ⟨b, off + i, none⟩ = some (.bool x)
theorem SlBo.below {w w' : World} {a : Option Addr} {n c : Nat} {dd : List Bool} (h : SlBo w a n c dd) (hb : Below w.heap.size w w') : SlBo w' a n c dd := by
  refine ⟨h.len, h.cap, h.small, ?_⟩
  rcases h.at_ with h0 | ⟨b, off, rfl, hlt, hc⟩
  · exact .inl h0
  · exact .inr ⟨b, off, rfl, Nat.lt_of_lt_of_le hlt hb.size, fun i x hx => (hb.cell (p := ⟨b, off + i, none⟩) hlt).trans (hc i x hx)⟩
theorem SlBo.bytes1 : Try.prog.bytesOf 4 = 1 := by kernel_rfl
theorem SlBo.open {H : Type} {enc : TypeId × Value → H} {w : World} {base : Nat} {held : Bool} {fuel : Nat} {a : Option Addr} {n c : Nat} {y : DataW H × List MemPlace}
    (h : DataW.trod enc Try.prog w base (fun _ => true) held fuel 34 [.slice a n c] = some y) (hw : ∀ n ∈ y.1.weights Try.prog 34, n ≤ reachBytes) : ∃ dd, SlBo w a n c dd := by
  rcases Go.Deep.open_bools Try.underlying34 Try.underlying4 (by kernel_rfl) h with ⟨hcs, _⟩ | ⟨x, l, k, B, hcs, _, hl, hm, hx, hc⟩
  · simp at hcs
    obtain ⟨rfl, rfl, rfl⟩ := hcs
    exact ⟨[], rfl, Nat.le_refl _, by omega, .inl rfl⟩
  · simp at hcs
    obtain ⟨rfl, rfl, rfl⟩ := hcs
    subst hx
    have hsz : c ≤ reachBytes := by
      have := hw ((((List.range n).map fun i => (DataW.lit (.bool (B i)) : DataW H)).length + ((List.range (c - n)).map fun j => (DataW.lit (.bool (B (n + j))) : DataW H)).length) * Try.prog.bytesOf 4) (by
        simp only [Go.Deep.boolRow]
        unfold DataW.weights
        rw [Try.underlying34]
        simp)
      rw [SlBo.bytes1] at this
      simp at this
      omega
    simp only [reachBytes] at hsz
    refine ⟨(List.range n).map B, by simp, hl, by omega, ?_⟩
    by_cases h0 : n = 0
    · exact .inl h0
    · obtain ⟨b, off, spot⟩ := x
      have hc0 := hc 0 (by omega)
      have hspot : spot = none := by simpa [Addr.add] using World.cell?_spot hc0
      subst hspot
      have hlt := World.block_lt_of_cell? _ _ hc0
      refine .inr ⟨b, off, rfl, hlt, fun i v hv => ?_⟩
      have hi : i < n := by
        have := (List.getElem?_eq_some_iff.1 hv).1
        simpa using this
      have := hc i (by omega)
      simp [hi] at hv
      rw [← hv]
      by_cases h9 : i = 0
      · subst h9; simpa [Addr.add] using this
      · simpa [Addr.add, h9] using this
end Go.Proofs.Ytnbagloifbllbaa
