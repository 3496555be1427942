/- arp: a cache as it lies in memory. -/
import Derived.Test.YtfjpckaphfdfnaaGreatDoorKeA
import Derived.Test.YtfjpckaphfdfnaaGreatDoorSoD
import Derived.Test.YtfjpckaphfdfnaaGreatDoorAr5
namespace Go.Proofs.YtfjpckaphfdfnaaGreatDoor
open Go.RowKit Go.MapKept Go.Maps
section
variable {κ : Type} {P : Program} {k e t : TypeId} {ek : κ → Value} {K : κ → Prop} {w w' : World} {b n : Nat} {g : κ → Option Value}
theorem keys_list : ∀ (es : List MapEntry), (∀ x ∈ es, ∃ q, K q ∧ x.key = ek q ∧ g q = some x.val) → ∃ ss : List κ, ss.map ek = es.map (·.key) ∧ (∀ q ∈ ss, K q ∧ (g q).isSome = true) := by
  intro es
  induction es with
  | nil => intro _; exact ⟨[], rfl, fun q hq => by cases hq⟩
  | cons x es ih =>
    intro h
    obtain ⟨ss, h1, h2⟩ := ih (fun x hx => h x (List.mem_cons_of_mem _ hx))
    obtain ⟨q, hq, hk, hv⟩ := h x List.mem_cons_self
    refine ⟨q :: ss, by simp [h1, hk], fun q' hq' => ?_⟩
    rcases List.mem_cons.1 hq' with rfl | hq'
    · exact ⟨hq, by rw [hv]; rfl⟩
    · exact h2 q' hq'
/-- A map has just as many entries as there are keys. -/
theorem Mp.card (h : Mp ek K w b n g) (hinj : ∀ q q', K q → K q' → ek q = ek q' → q = q') [DecidableEq κ] (L : List κ) (hn : L.Nodup) (hm : ∀ q, q ∈ L ↔ K q ∧ (g q).isSome = true) : ∃ es clock, w.heap[b]? = some (.map es clock) ∧ es.size = L.length ∧ Mp ek K w b L.length g := by
  obtain ⟨es, c, h1, h2, h3, h4, h5⟩ := h.ex
  obtain ⟨ss, hs1, hs2⟩ := keys_list es.toList h4
  have hl : ss.length = es.size := by
    have := congrArg List.length hs1
    simpa using this
  have hnd : ss.Nodup := by
    have hk := h3.2.2
    rw [← hs1] at hk
    exact (List.pairwise_map.1 hk).imp (fun h e1 => h (by rw [e1]))
  have hp : ss.Perm L := (List.perm_ext_iff_of_nodup hnd hn).2 (fun q => by
    rw [hm q]
    constructor
    · exact hs2 q
    · rintro ⟨hq, hg⟩
      cases hv : g q with
      | none => rw [hv] at hg; cases hg
      | some v =>
        obtain ⟨x, hx, hxk, _⟩ := h5 q v hq hv
        have : ek q ∈ ss.map ek := by rw [hs1, ← hxk]; exact List.mem_map_of_mem hx
        obtain ⟨q', hq', hk'⟩ := List.mem_map.1 this
        rw [← hinj q' q (hs2 q' hq').1 hq hk']
        exact hq')
  have he : es.size = L.length := by rw [← hl, hp.length_eq]
  exact ⟨es, c, h1, he, es, c, h1, by omega, h3, h4, h5⟩
def mdel [DecidableEq κ] (g : κ → Option Value) (q : κ) : κ → Option Value := fun q' => if q' = q then none else g q'
/-- 'delete(m, k)'. -/
theorem Mp.del [DecidableEq κ] (h : Mp ek K w b n g) (E : KE P k ek K) (ht : P.underlying t = some (.map k e)) {q : κ} (hq : K q) (ty : TypeId) :
    ∃ w', (Builtin.delete_ #[t, k] ty #[.map (some b), ek q]).run P w = .ok (.tuple #[]) w' ∧ Mp ek K w' b n (mdel g q) ∧ Fr (· = b) w w' ∧ w'.heap.size = w.heap.size := by
  obtain ⟨l, hl⟩ := E.ok q hq
  obtain ⟨es, cl, hb, hh⟩ := h.find E hq
  obtain ⟨es', cl', h1', h2', h3', h4', h5'⟩ := h.ex
  rw [hb] at h1'
  injection h1' with h1'
  injection h1' with e1 e2
  subst e1 e2
  rcases hh with ⟨h1, h2, hg⟩ | ⟨j, x, h1, h2, h3, hg⟩
  · refine ⟨_, by simp [Builtin.delete_, run_underlying ht, MapKept.run_getObj_map hb, E.keyed.check w _ hl, h1, MapKept.run_setObj_map _ hb, Result.andThen]; rfl, ?_, ?_, ?_⟩
    · refine (h.congr (g' := mdel g q) (fun q' hq' => ?_)).same (by first | rfl | exact (heap_set hb).1.trans hb.symm)
      unfold mdel
      by_cases e1 : q' = q
      · rw [if_pos e1, e1, hg]
      · rw [if_neg e1]
    · first | exact Fr.refl _ _ | exact fr_setBlock hb _
    · first | rfl | simp
  · have hjl : j < es.toList.length := (List.getElem?_eq_some_iff.1 h2).1
    have hjs : j < es.size := by simpa using hjl
    have hsub : (es.eraseIdxIfInBounds j).toList = es.toList.eraseIdx j := by
      unfold Array.eraseIdxIfInBounds
      rw [dif_pos hjs]
      simp
    refine ⟨{ w with heap := w.heap.setIfInBounds b (.map (es.eraseIdxIfInBounds j) cl) }, by simp [Builtin.delete_, run_underlying ht, MapKept.run_getObj_map hb, E.keyed.check w _ hl, h1, MapKept.run_setObj_map _ hb, Result.andThen], ⟨_, _, (heap_set hb).1, Nat.le_trans (MapFrom.size_erase es j) h2', stamped_erase h3' j, ?_, ?_⟩, fr_setBlock hb _, by simp⟩
    · intro y hy
      rw [hsub, List.mem_eraseIdx_iff_getElem?] at hy
      obtain ⟨i, hne, hi⟩ := hy
      obtain ⟨q', hq', hk', hv'⟩ := h4' y (List.mem_of_getElem? hi)
      refine ⟨q', hq', hk', ?_⟩
      unfold mdel
      rw [if_neg (fun e1 => ?_)]
      · exact hv'
      · have hnd := h3'.2.2
        have g1 : (es.toList.map (·.key))[i]? = some (ek q) := by rw [List.getElem?_map, hi]; simp [hk', e1]
        have g2 : (es.toList.map (·.key))[j]? = some (ek q) := by rw [List.getElem?_map, h2]; simp [h3]
        exact hne ((List.getElem?_inj (List.getElem?_eq_some_iff.1 g1).1 hnd).1 (by rw [g1, g2]))
    · intro q' v' hq' hv'
      unfold mdel at hv'
      split at hv'
      · cases hv'
      · rename_i e1
        obtain ⟨y, hy, hyk, hyv⟩ := h5' q' v' hq' hv'
        refine ⟨y, ?_, hyk, hyv⟩
        rw [hsub, List.mem_eraseIdx_iff_getElem?]
        obtain ⟨i, hi⟩ := List.getElem?_of_mem hy
        refine ⟨i, fun e3 => ?_, hi⟩
        subst e3
        rw [h2] at hi
        injection hi with hi
        subst hi
        exact e1 (E.inj q' q hq' hq (by rw [← hyk, h3]))
end
/-- What a block is of the cache's. -/
inductive RoleA where
  | no
  | cache
  | map
  | row (q : Nat)
  | body
/-- A body that waits; where it lies. -/
structure Bd where
  a : Option Addr
  n : Nat
  c : Nat
  zs : List Nat
def bdC (b : Bd) : List Value := [.slice b.a b.n b.c]
abbrev OwnD := OwnG 24 1 bdC
theorem layD : Lays Tryz.prog 115 24 1 24 bdC :=
  ⟨Tryz.underlying115, ⟨.slice none 0 0, by kernel_rfl, rfl⟩, by decide, fun _ => rfl, fun x u hu => by simp [bdC] at hu; subst hu; rfl⟩
/-- A neighbour. -/
structure Nbr where
  kn : Bool
  mac : Nat
  at_ : Int
  ak : Int
  a : Option Addr
  n : Nat
  c : Nat
  ws : List Bd
def Nbr.v (x : Nbr) : Value := .agg #[.bool x.kn, .int .u64 (x.mac : Nat), .int .i64 x.at_, .int .i64 x.ak, .slice x.a x.n x.c]
/-- How a neighbour lies. -/
structure NbW (w : World) (kd : Nat → RoleA) (q : Nat) (x : Nbr) : Prop where
  row : OwnD w 0 x.a x.n x.c x.ws
  rk : ∀ g, (Value.slice x.a x.n x.c).ownBlock = some g → kd g = .row q
  bs : ∀ b ∈ x.ws, Sl w b.a b.n b.c b.zs ∧ 0 < b.n ∧ b.n ≤ 1500 ∧ ∃ g off, b.a = some ⟨g, off, none⟩ ∧ g < w.heap.size ∧ kd g = .body
structure NbOk (now : Int) (x : Nbr) : Prop where
  mac : x.mac < 281474976710655
  at0 : 0 ≤ x.at_
  at1 : x.at_ ≤ now
  ak0 : 0 ≤ x.ak
  ak1 : x.ak ≤ 3
  len : x.ws.length ≤ 4
  none : x.kn = true → x.ws = []
theorem NbOk.later {now now' : Int} {x : Nbr} (h : NbOk now x) (hn : now ≤ now') : NbOk now' x := ⟨h.mac, h.at0, by have := h.at1; omega, h.ak0, h.ak1, h.len, h.none⟩
theorem Sl.frA {w w' : World} {a : Option Addr} {n c : Nat} {zs : List Nat} {Q : Nat → Prop} (h : Sl w a n c zs) (hf : Fr Q w w') (hq : ∀ b off, a = some ⟨b, off, none⟩ → ¬ Q b) : Sl w' a n c zs := by
  obtain ⟨h1, h2, h3, hsm, hnz, h4, h5⟩ := h
  refine ⟨h1, h2, h3, hsm, hnz, h4, ?_⟩
  rcases h5 with h5 | ⟨b, off, rfl, hlt, hc⟩
  · exact .inl h5
  · exact .inr ⟨b, off, rfl, Nat.lt_of_lt_of_le hlt hf.size, fun i hi => (hf.cell ⟨b, off + i, none⟩ hlt (hq b off rfl)).trans (hc i hi)⟩
theorem NbW.fr {w w' : World} {kd kd' : Nat → RoleA} {q : Nat} {x : Nbr} {Q : Nat → Prop} (h : NbW w kd q x) (hf : Fr Q w w') (hq : ∀ g, g < w.heap.size → Q g → kd g ≠ .body ∧ kd g ≠ .row q) (hk : ∀ g, g < w.heap.size → kd g = .body ∨ kd g = .row q → kd' g = kd g) : NbW w' kd' q x := by
  refine ⟨?_, fun g hg => ?_, fun b hb => ?_⟩
  · refine OwnG.fr h.row hf (fun g hg hQ => ?_)
    exact (hq g (h.row.own.lt g hg).2 hQ).2 (h.rk g hg)
  · rw [hk g (h.row.own.lt g hg).2 (.inr (h.rk g hg))]
    exact h.rk g hg
  · obtain ⟨h1, h2, h2', g, off, h3, h4, h5⟩ := h.bs b hb
    refine ⟨h1.frA hf (fun g' off' he hQ => ?_), h2, h2', g, off, h3, Nat.lt_of_lt_of_le h4 hf.size, ?_⟩
    · rw [h3] at he
      injection he with he
      injection he with he
      subst he
      exact (hq g h4 hQ).1 h5
    · rw [hk g h4 (.inl h5)]
      exact h5
/-- A cache: its card, its address, its tick, how many bodies were lost, its neighbours; E: of which neighbours the bodies lie as told. -/
structure CaV (E : Nat → Prop) (w : World) (kd : Nat → RoleA) (p mac ip : Nat) (now lost : Int) (D : List (Nat × Nbr)) : Prop where
  kp : kd p = .cache
  near : (Stc w p (CaC mac ip now (.map none) lost) ∧ D = []) ∨ ∃ mb, Stc w p (CaC mac ip now (.map (some mb)) lost) ∧ Mp ipV IpK w mb D.length (fun q => (lookD D q).map Nbr.v) ∧ kd mb = .map
  each : ∀ y ∈ D, (E y.1 → NbW w kd y.1 y.2) ∧ NbOk now y.2 ∧ y.1 < 4294967296
  srt : Srt D
  len : D.length ≤ 8
  fresh : ∀ g, w.heap.size ≤ g → kd g = .no
  mac1 : mac < 281474976710655
  ip1 : ip < 4294967296
  now0 : 0 ≤ now
  now1 : now ≤ 1099511627776
abbrev CaW := CaV (fun _ => True)
theorem CaV.st {E : Nat → Prop} {w : World} {kd : Nat → RoleA} {p mac ip : Nat} {now lost : Int} {D : List (Nat × Nbr)} (h : CaV E w kd p mac ip now lost D) : ∃ v, Stc w p (CaC mac ip now v lost) := by
  rcases h.near with ⟨h1, _⟩ | ⟨mb, h1, _⟩
  · exact ⟨_, h1⟩
  · exact ⟨_, h1⟩
theorem CaV.lt {E : Nat → Prop} {w : World} {kd : Nat → RoleA} {p mac ip : Nat} {now lost : Int} {D : List (Nat × Nbr)} (h : CaV E w kd p mac ip now lost D) : p < w.heap.size := h.st.choose_spec.lt
theorem CaV.weak {E F : Nat → Prop} {w : World} {kd : Nat → RoleA} {p mac ip : Nat} {now lost : Int} {D : List (Nat × Nbr)} (h : CaV E w kd p mac ip now lost D) (he : ∀ q, F q → E q) : CaV F w kd p mac ip now lost D :=
  ⟨h.kp, h.near, fun y hy => ⟨fun hF => (h.each y hy).1 (he _ hF), (h.each y hy).2⟩, h.srt, h.len, h.fresh, h.mac1, h.ip1, h.now0, h.now1⟩
/-- Others' blocks are turned, or rows of neighbours that are not told of: the cache stays. -/
theorem CaV.fr {E : Nat → Prop} {w w' : World} {kd : Nat → RoleA} {p mac ip : Nat} {now lost : Int} {D : List (Nat × Nbr)} {Q : Nat → Prop} (h : CaV E w kd p mac ip now lost D) (hf : Fr Q w w') (hq : ∀ g, g < w.heap.size → Q g → kd g = .no ∨ ∃ q, kd g = .row q ∧ ¬ E q) : CaV E w' kd p mac ip now lost D := by
  refine ⟨h.kp, ?_, fun y hy => ⟨fun hE => ((h.each y hy).1 hE).fr hf (fun g hl hQ => ?_) (fun _ _ _ => rfl), (h.each y hy).2⟩, h.srt, h.len, fun g hg => h.fresh g (Nat.le_trans hf.size hg), h.mac1, h.ip1, h.now0, h.now1⟩
  · have hp : ∀ v, Stc w p v → ¬ Q p := fun v hs hQ => by
      rcases hq p hs.lt hQ with e | ⟨q, e, _⟩ <;> rw [h.kp] at e <;> cases e
    rcases h.near with ⟨h1, h2⟩ | ⟨mb, h1, h2, h3⟩
    · exact .inl ⟨h1.fr hf (hp _ h1), h2⟩
    · exact .inr ⟨mb, h1.fr hf (hp _ h1), h2.fr hf (fun hQ => by rcases hq mb h2.lt hQ with e | ⟨q, e, _⟩ <;> rw [h3] at e <;> cases e), h3⟩
  · rcases hq g hl hQ with e | ⟨q, e, hne⟩
    · rw [e]; exact ⟨fun e => (by cases e), fun e => (by cases e)⟩
    · rw [e]
      refine ⟨fun e => (by cases e), fun e2 => ?_⟩
      injection e2 with e2
      exact hne (e2 ▸ hE)
theorem CaV.below {E : Nat → Prop} {w w' : World} {kd : Nat → RoleA} {p mac ip : Nat} {now lost : Int} {D : List (Nat × Nbr)} (h : CaV E w kd p mac ip now lost D) (hb : Below w.heap.size w w') : CaV E w' kd p mac ip now lost D :=
  h.fr (Q := fun _ => False) (Fr.of_below hb) (fun _ _ h => h.elim)
theorem CaV.keys {E : Nat → Prop} {w : World} {kd : Nat → RoleA} {p mac ip : Nat} {now lost : Int} {D : List (Nat × Nbr)} (h : CaV E w kd p mac ip now lost D) : ∀ y ∈ D, y.1 < 4294967296 := fun y hy => (h.each y hy).2.2
/-- Other roles for blocks that are the cache's no more, or not yet. -/
theorem CaV.role {E : Nat → Prop} {w : World} {kd kd' : Nat → RoleA} {p mac ip : Nat} {now lost : Int} {D : List (Nat × Nbr)} (h : CaV E w kd p mac ip now lost D) (hk : ∀ g, g < w.heap.size → kd g ≠ .no → (∀ q, kd g = .row q → E q) → kd' g = kd g) (hfr : ∀ g, w.heap.size ≤ g → kd' g = .no) : CaV E w kd' p mac ip now lost D := by
  have hp : kd' p = kd p := hk p h.lt (by rw [h.kp]; exact fun e => (by cases e)) (fun q e => by rw [h.kp] at e; cases e)
  refine ⟨hp.trans h.kp, ?_, fun y hy => ⟨fun hE => ((h.each y hy).1 hE).fr (Q := fun _ => False) (Fr.refl _ _) (fun _ _ h => h.elim) (fun g hg hr => hk g hg ?_ ?_), (h.each y hy).2⟩, h.srt, h.len, hfr, h.mac1, h.ip1, h.now0, h.now1⟩
  · rcases h.near with h1 | ⟨mb, h1, h2, h3⟩
    · exact .inl h1
    · exact .inr ⟨mb, h1, h2, (hk mb h2.lt (by rw [h3]; exact fun e => (by cases e)) (fun q e => by rw [h3] at e; cases e)).trans h3⟩
  · rcases hr with e | e <;> rw [e] <;> exact fun e => (by cases e)
  · intro q e
    rcases hr with e2 | e2 <;> rw [e2] at e
    · cases e
    · injection e with e
      rw [← e]
      exact hE
/-- From w to w' the cache's own blocks alone were turned, and new ones. -/
structure GrowA (kd kd' : Nat → RoleA) (w w' : World) : Prop where
  fr : Fr (fun g => kd g ≠ .no) w w'
  no : ∀ g, g < w.heap.size → kd g = .no → kd' g = .no
theorem GrowA.refl (kd : Nat → RoleA) (w : World) : GrowA kd kd w w := ⟨Fr.refl _ _, fun _ _ h => h⟩
theorem GrowA.trans {kd kd' kd'' : Nat → RoleA} {w w' w'' : World} (h : GrowA kd kd' w w') (k : GrowA kd' kd'' w' w'') : GrowA kd kd'' w w'' := by
  refine ⟨⟨k.fr.os.trans h.fr.os, k.fr.tape.trans h.fr.tape, k.fr.output.trans h.fr.output, Nat.le_trans h.fr.size k.fr.size, fun g hg hn => ?_⟩, fun g hg hn => k.no g (Nat.lt_of_lt_of_le hg h.fr.size) (h.no g hg hn)⟩
  have h1 : kd g = .no := by
    cases e : kd g with
    | no => rfl
    | _ => exact absurd (show kd g ≠ .no from fun e2 => by rw [e] at e2; cases e2) hn
  exact (k.fr.block g (Nat.lt_of_lt_of_le hg h.fr.size) (fun e => e (h.no g hg h1))).trans (h.fr.block g hg hn)
theorem GrowA.of_below {kd : Nat → RoleA} {w w' : World} (h : Below w.heap.size w w') : GrowA kd kd w w' := ⟨Fr.of_below h, fun _ _ h => h⟩
theorem GrowA.of_fr {kd : Nat → RoleA} {w w' : World} {Q : Nat → Prop} (h : Fr Q w w') (hq : ∀ g, g < w.heap.size → Q g → kd g ≠ .no) : GrowA kd kd w w' := ⟨h.mono hq, fun _ _ h => h⟩
/-- A new cache. -/
theorem CaW.new {w w' : World} {mac ip : Nat} (h : Stc w' w.heap.size (CaC mac ip 0 (.map none) 0)) (hm : mac < 281474976710655) (hi : ip < 4294967296) :
    CaW w' (fun g => if g = w.heap.size then .cache else .no) w.heap.size mac ip 0 0 [] :=
  ⟨if_pos rfl, .inl ⟨h, rfl⟩, fun y hy => (by cases hy), List.Pairwise.nil, Nat.zero_le _, fun g hg => if_neg (by have := h.lt; omega), hm, hi, by omega, by omega⟩
/-- The rising keys are the data's. -/
theorem rise_keys {D : List (Nat × Nbr)} {n : Nat} {L : List Nat} (hs : Srt D) (hb : ∀ y ∈ D, y.1 < 4294967296) (h : RiseOf (fun q => (lookD D q).map Nbr.v) n L) : L = D.map (·.1) := by
  refine rise_eq L _ h.rise hs.rise (fun q => ?_)
  rw [h.mem q]
  have e : ((lookD D q).map Nbr.v).isSome = (lookD D q).isSome := by cases lookD D q <;> rfl
  rw [e, lookD_some_iff]
  constructor
  · exact fun h => h.2
  · intro hq
    obtain ⟨y, hy, rfl⟩ := List.mem_map.1 hq
    exact ⟨hb y hy, hq⟩
theorem mem_look {D : List (Nat × Nbr)} (hb : ∀ y ∈ D, y.1 < 4294967296) (q : Nat) : q ∈ D.map (·.1) ↔ IpK q ∧ ((lookD D q).map Nbr.v).isSome = true := by
  have e : ((lookD D q).map Nbr.v).isSome = (lookD D q).isSome := by cases lookD D q <;> rfl
  rw [e, lookD_some_iff]
  constructor
  · intro hq
    obtain ⟨y, hy, rfl⟩ := List.mem_map.1 hq
    exact ⟨hb y hy, hq⟩
  · exact fun h => h.2
theorem Srt.nodup {α : Type} {D : List (Nat × α)} (hs : Srt D) : (D.map (·.1)).Nodup := by
  have := hs.rise
  unfold List.Nodup
  exact this.imp (fun h => Nat.ne_of_lt h)
/-- A map that holds the data, told to have just as many entries. -/
theorem Mp.tightD {w : World} {mb n : Nat} {D : List (Nat × Nbr)} (h : Mp ipV IpK w mb n (fun q => (lookD D q).map Nbr.v)) (hs : Srt D) (hb : ∀ y ∈ D, y.1 < 4294967296) : Mp ipV IpK w mb D.length (fun q => (lookD D q).map Nbr.v) := by
  obtain ⟨es, c, h1, h2, h3⟩ := h.card ip_inj (D.map (·.1)) hs.nodup (fun q => mem_look hb q)
  rw [List.length_map] at h3
  exact h3
theorem Mp.lenD {w : World} {mb n : Nat} {D : List (Nat × Nbr)} (h : Mp ipV IpK w mb n (fun q => (lookD D q).map Nbr.v)) (hs : Srt D) (hb : ∀ y ∈ D, y.1 < 4294967296) (ty : TypeId) : (Builtin.len_ #[167] ty #[.map (some mb)]).run Tryz.prog w = .ok (.int .i64 (D.length : Nat)) w := by
  obtain ⟨es, c, h1, h2, h3⟩ := h.card ip_inj (D.map (·.1)) hs.nodup (fun q => mem_look hb q)
  rw [List.length_map] at h2
  simp [Builtin.len_, run_underlying Tryz.underlying167, MapKept.run_getObj_map h1, Result.andThen, goInt, h2]
end Go.Proofs.YtfjpckaphfdfnaaGreatDoor
