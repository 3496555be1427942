/- The CRC is linear, and a burst of up to four bytes changes it. Nothing of the program. -/
import Derived.Test.YtjaheelgcjafcaaProg
import Derived.Test.YtjaheelgcjafcaaBase
import Derived.Test.YtjaheelgcjafcaaOwn
import Derived.Deep.OwnRows
import Derived.Outline
import Derived.WalkLawsBesides
import Derived.WalkSpells
import Derived.Test.YtjaheelgcjafcaaKB
import Derived.Test.YtjaheelgcjafcaaKJ
import Derived.Deep.DeepMust
import Derived.Test.YtjaheelgcjafcaaKG
import Derived.Test.YtjaheelgcjafcaaKK
import Derived.Deep.MidRow
import Derived.Deep.Strs
import Derived.RowKit
import Derived.ChangeSlices
import Derived.SizedLaws
import Derived.ProofKit
import Derived.OpenShut
import Derived.ChangeArms
import Derived.WideShapes
import Derived.Test.YtjaheelgcjafcaaSlc
import Derived.Test.YtjaheelgcjafcaaOwnG
import Derived.Test.YtjaheelgcjafcaaCopy
import Derived.Lib.MinMax
import Derived.Laws.IdiomStrings
namespace Go.Proofs.Ytjaheelgcjafcaa
open Go.RowKit
/-- A number's k lowest bytes, the highest first. -/
def bytesB (v : Nat) : Nat → List Nat
  | 0 => []
  | j + 1 => (v / 256 ^ j % 256) :: bytesB v j
theorem bytesB_len (v k : Nat) : (bytesB v k).length = k := by
  induction k with
  | zero => rfl
  | succ k ih => simp [bytesB, ih]
theorem OwnB.store {w : World} {B g n c : Nat} {zs : List Nat} (h : OwnB w B (some ⟨g, 0, none⟩) n c zs) (j x : Nat) (hx : x < 256) : OwnB (w.setCell ⟨g, j, none⟩ (.int .u8 (x : Nat))) B (some ⟨g, 0, none⟩) n c (zs.set j x) := by
  refine ⟨by rw [List.length_set]; exact h.len, ?_, fun i => ?_⟩
  · have := h.own.stored j (.int .u8 (x : Nat))
    have e : vals (zs.set j x) = (vals zs).set j (.int .u8 (x : Nat)) := by simp [vals, List.map_set]
    rw [e]
    exact this.1
  · simp only [List.getD_eq_getElem?_getD, List.getElem?_set]
    split
    · split
      · exact hx
      · exact Nat.zero_lt_succ _
    · have := h.bnd i
      rw [List.getD_eq_getElem?_getD] at this
      exact this
theorem OwnB.cell {w : World} {B g n c : Nat} {zs : List Nat} (h : OwnB w B (some ⟨g, 0, none⟩) n c zs) (j : Nat) (hj : j < n) : w.cell? ⟨g, j, none⟩ = some (.int .u8 (zs.getD j 0 : Nat)) := by
  rw [h.own.cellAt j (by omega), vals_at zs j (by rw [h.len]; exact hj)]
theorem OwnB.free {w : World} {B g n c : Nat} {zs : List Nat} (h : OwnB w B (some ⟨g, 0, none⟩) n c zs) (j : Nat) : w.frozen? ⟨g, j, none⟩ = false := h.own.frozenAt j
theorem made_list (n : Nat) : (madeCells #[Value.int .u8 0] n).toList = vals (List.replicate n 0) := by
  apply List.ext_getElem?
  intro i
  by_cases h : i < n
  · simp [madeCells, vals, h, Nat.mod_one]
  · simp [madeCells, vals, h]
theorem own_full (w : World) (n : Nat) (hn : n ≤ 140737488355328) : OwnB (w.alloc (.cells (madeCells #[.int .u8 0] n) 5)) w.heap.size (some ⟨w.heap.size, 0, none⟩) n n (List.replicate n 0) := by
  refine ⟨by simp, ⟨by simp [vals], .inr ⟨w.heap.size, n, madeCells #[.int .u8 0] n, rfl, Nat.le_refl _, ?_, Nat.le_refl _, by unfold maxLen; omega, by rw [size_madeCells]; omega, ?_⟩⟩, fun i => by simp [List.getD_eq_getElem?_getD, List.getElem?_replicate]; split <;> simp⟩
  · show (w.heap.push _)[w.heap.size]? = _
    simp
  · rw [made_list, List.take_of_length_le (by simp [vals])]
theorem rep_set (m : Nat) (ys : List Nat) (x : Nat) : (List.replicate (m + 1) 0 ++ ys).set m x = List.replicate m 0 ++ (x :: ys) := by
  rw [List.replicate_succ', List.append_assoc, List.set_append_right _ _ (by simp)]
  simp
/-- What Bytes answers. -/
def bytesE (v : Nat) (k : Int) : Nat := if k < 1 ∨ 8 < k then 2 else if v / 256 ^ k.toNat = 0 then 0 else 6
def bytesV (v : Nat) (k : Int) : List Nat := if bytesE v k = 0 then bytesB v k.toNat else []
theorem mkn (c : Nat) (hc : c ≤ 140737488355328) (w : World) : (Instr.makeSlice 31 (.int .i64 (c : Int)) (.int .i64 (c : Int))).run Try.prog w = .ok (.slice (some ⟨w.heap.size, 0, none⟩) c c) (w.alloc (.cells (madeCells #[.int .u8 0] c) 5)) :=
  run_make_row' 31 5 (.int .u8 0) 1 Try.underlying31 own_info rfl .i64 .i64 c (by omega) (by omega) w
theorem div_step (v m k : Nat) (h : m < k) : v / 256 ^ (k - (m + 1)) / 256 = v / 256 ^ (k - m) := by
  rw [Nat.div_div_eq_div_mul, ← Nat.pow_succ, Nat.succ_eq_add_one, show k - (m + 1) + 1 = k - m from by omega]
end Go.Proofs.Ytjaheelgcjafcaa
namespace Go.Proofs.Ytjaheelgcjafcaa
open Go.RowKit
theorem OwnB.fr {w w' : World} {B : Nat} {a : Option Addr} {n c : Nat} {zs : List Nat} {Q : Nat → Prop} (h : OwnB w B a n c zs) (hf : Fr Q w w') (hq : ∀ g, B ≤ g → g < w.heap.size → ¬ Q g) : OwnB w' B a n c zs := by
  obtain ⟨h1, ⟨h2, h3⟩, h4⟩ := h
  refine ⟨h1, ⟨h2, ?_⟩, h4⟩
  rcases h3 with h3 | ⟨g, cap, cur, hv, hb, hh, hr⟩
  · exact .inl h3
  · have hl := (Array.getElem?_eq_some_iff.1 hh).1
    exact .inr ⟨g, cap, cur, hv, hb, (hf.block g hl (hq g hb hl)).trans hh, hr⟩
theorem bytesV_ok {v k : Nat} (h1 : 1 ≤ k) (h8 : k ≤ 8) (hv : v < 256 ^ k) : bytesV v (k : Int) = bytesB v k := by
  unfold bytesV
  rw [if_pos]
  · simp
  · unfold bytesE
    rw [if_neg (by omega), if_pos]
    rw [Int.toNat_natCast]
    exact Nat.div_eq_of_lt hv
end Go.Proofs.Ytjaheelgcjafcaa
namespace Go.Proofs.Ytjaheelgcjafcaa
open Go.RowKit
def chB (kind flags : Nat) (vs : List Nat) : List Nat := kind :: flags :: (bytesB (4 + vs.length) 2 ++ vs ++ List.replicate (padN vs.length) 0)
theorem chB_len (kind flags : Nat) (vs : List Nat) : (chB kind flags vs).length = 4 + vs.length + padN vs.length := by
  unfold chB
  simp [bytesB_len]
  omega
end Go.Proofs.Ytjaheelgcjafcaa
namespace Go.Proofs.Ytjaheelgcjafcaa
open Go.RowKit
/-- A row of blocks. -/
structure BkR (w : World) (a : Option Addr) (n c : Nat) (bs : List (Nat × Nat)) : Prop where
  len : bs.length = n
  cap : n ≤ c
  less : n ≤ 35184372088832
  at_ : n = 0 ∨ ∃ b off, a = some ⟨b, off, none⟩ ∧ b < w.heap.size ∧ ∀ i p, bs[i]? = some p → p.1 < 65536 ∧ p.2 < 65536 ∧ w.cell? ⟨b, off + i * 2, none⟩ = some (.int .u16 (p.1 : Nat)) ∧ w.cell? ⟨b, off + i * 2 + 1, none⟩ = some (.int .u16 (p.2 : Nat))
theorem BkR.small {w : World} {a : Option Addr} {n c : Nat} {bs : List (Nat × Nat)} (h : BkR w a n c bs) : n ≤ 281474976710656 := Nat.le_trans h.less (by decide)
def bksB (bs : List (Nat × Nat)) : List Nat := bs.flatMap fun p => bytesB p.1 2 ++ bytesB p.2 2
def dusB (ds : List Nat) : List Nat := ds.flatMap fun d => bytesB d 4
theorem bksB_len (bs : List (Nat × Nat)) : (bksB bs).length = 4 * bs.length := by
  induction bs with
  | nil => rfl
  | cons p bs ih =>
    unfold bksB at ih ⊢
    rw [List.flatMap_cons, List.length_append, ih]
    simp [bytesB_len]
    omega
theorem dusB_len (ds : List Nat) : (dusB ds).length = 4 * ds.length := by
  induction ds with
  | nil => rfl
  | cons p ds ih =>
    unfold dusB at ih ⊢
    rw [List.flatMap_cons, List.length_append, ih]
    simp [bytesB_len]
    omega
theorem bks_snoc (bs : List (Nat × Nat)) (i : Nat) (p : Nat × Nat) (h : bs[i]? = some p) : bksB (bs.take (i + 1)) = bksB (bs.take i) ++ (bytesB p.1 2 ++ bytesB p.2 2) := by
  unfold bksB
  rw [List.take_add_one, h, List.flatMap_append]
  simp
theorem dus_snoc (ds : List Nat) (i d : Nat) (h : ds[i]? = some d) : dusB (ds.take (i + 1)) = dusB (ds.take i) ++ bytesB d 4 := by
  unfold dusB
  rw [List.take_add_one, h, List.flatMap_append]
  simp
end Go.Proofs.Ytjaheelgcjafcaa
namespace Go.Proofs.Ytjaheelgcjafcaa
open Go.RowKit Go.ChangeShapes Go.WideShapes Go.ChangeAt
theorem BkR.below {w w' : World} {a : Option Addr} {n c : Nat} {bs : List (Nat × Nat)} (h : BkR w a n c bs) (hb : Below w.heap.size w w') : BkR w' a n c bs := by
  refine ⟨h.len, h.cap, h.less, ?_⟩
  rcases h.at_ with h0 | ⟨b, off, rfl, hlt, hc⟩
  · exact .inl h0
  · refine .inr ⟨b, off, rfl, Nat.lt_of_lt_of_le hlt hb.size, fun i p hp => ?_⟩
    obtain ⟨h1, h2, h3, h4⟩ := hc i p hp
    exact ⟨h1, h2, (hb.cell (p := ⟨b, off + i * 2, none⟩) hlt).trans h3, (hb.cell (p := ⟨b, off + i * 2 + 1, none⟩) hlt).trans h4⟩
def SlDu (w : World) (a : Option Addr) (n c : Nat) (ds : List Nat) : Prop := SlK .u32 4294967296 w a n c ds
theorem SlDu.below {w w' : World} {a : Option Addr} {n c : Nat} {ds : List Nat} (h : SlDu w a n c ds) (hb : Below w.heap.size w w') : SlDu w' a n c ds := SlK.below h hb
theorem SlDu.bytes4 : Try.prog.bytesOf 30 = 4 := by kernel_rfl
set_option maxRecDepth 100000 in
theorem SlDu.open {H : Type} {enc : TypeId × Value → H} {w : World} {base : Nat} {held : Bool} {fuel : Nat} {a : Option Addr} {n c : Nat} {y : DataW H × List MemPlace}
    (h : DataW.trod enc Try.prog w base (fun _ => true) held fuel 44 [.slice a n c] = some y) (hw : ∀ n ∈ y.1.weights Try.prog 44, n ≤ reachBytes) : ∃ ds, SlDu w a n c ds := by
  rcases open_ints Try.underlying44 Try.underlying30 (by kernel_rfl) h with ⟨hcs, _⟩ | ⟨x, l, c', zs, hcs, _, hl, hm, hz, hx, hcell, hwz⟩
  · simp at hcs
    obtain ⟨rfl, rfl, rfl⟩ := hcs
    exact ⟨[], SlK.nil _ _ _ (by omega)⟩
  · simp at hcs
    obtain ⟨rfl, rfl, rfl⟩ := hcs
    have hz' : zs.length = c := by simpa using hz
    have hb : ((lits (H := H) .u32 (zs.take n)).length + (lits (H := H) .u32 (zs.drop n)).length) * 4 ≤ reachBytes := by
      have := hw (((lits (H := H) .u32 (zs.take n)).length + (lits (H := H) .u32 (zs.drop n)).length) * Try.prog.bytesOf 30) (by
        rw [hx]
        unfold DataW.weights
        rw [Try.underlying44]
        simp)
      rwa [SlDu.bytes4] at this
    simp only [lits, List.length_map, List.length_take, List.length_drop, reachBytes] at hb
    exact ⟨_, SlK.of_ints (by omega) (fun z hz => by have := bounds_u32 hz; omega) hl hm hz' (by omega) hcell hwz⟩
theorem BkR.cells2 : Try.prog.cellsOf 154 = 2 := by kernel_rfl
theorem BkR.cells1 : Try.prog.cellsOf 42 = 1 := by kernel_rfl
theorem BkR.bytes4 : Try.prog.bytesOf 154 = 4 := by kernel_rfl
set_option maxRecDepth 100000 in
theorem BkR.open {H : Type} {enc : TypeId × Value → H} {w : World} {base : Nat} {held : Bool} {fuel : Nat} {a : Option Addr} {n c : Nat} {y : DataW H × List MemPlace}
    (h : DataW.trod enc Try.prog w base (fun _ => true) held fuel 43 [.slice a n c] = some y) (hw : ∀ n ∈ y.1.weights Try.prog 43, n ≤ reachBytes) : ∃ bs, BkR w a n c bs := by
  rcases Go.Deep.open_slice Try.underlying43 h with ⟨hcs, _⟩ | ⟨x, l, k, m, fn, D, Pl, hcs, hb, hl, hm, hmm, hx, hc⟩
  · simp at hcs
    obtain ⟨rfl, rfl, rfl⟩ := hcs
    exact ⟨[], rfl, Nat.le_refl _, by omega, .inl rfl⟩
  · simp at hcs
    obtain ⟨rfl, rfl, rfl⟩ := hcs
    have hmc : m = c := by simpa using hmm
    subst hmc
    subst hx
    have hsz : m * 4 ≤ reachBytes := by
      have := hw ((((List.range n).map D).length + ((List.range (m - n)).map fun j => D (n + j)).length) * Try.prog.bytesOf 154) (by
        unfold DataW.weights
        rw [Try.underlying43]
        simp)
      rw [BkR.bytes4] at this
      simp at this
      omega
    simp only [reachBytes] at hsz
    rw [BkR.cells2] at hc
    have each : ∀ i, i < n → ∃ q : Nat × Nat, q.1 < 65536 ∧ q.2 < 65536 ∧ w.cell? (x.add (i * 2)) = some (.int .u16 (q.1 : Nat)) ∧ w.cell? (x.add (i * 2 + 1)) = some (.int .u16 (q.2 : Nat)) := by
      intro i hi
      obtain ⟨cs', h1, h2⟩ := hc i (by omega)
      obtain ⟨_, hlen, hcell⟩ := World.cells?_some h1
      obtain ⟨xs, m', _, _, hcl, hxl, hel⟩ := DataW.trod_array Try.underlying154 h2
      match cs', hlen with
      | [c0, c1], _ =>
        have g0 := hel 0 (by omega)
        rw [BkR.cells1, List.getElem?_eq_getElem (show 0 < xs.length by omega)] at g0
        obtain ⟨i0, q0, _, w0⟩ := DataW.trod_int Try.underlying42 g0
        simp at q0
        have g1 := hel 1 (by omega)
        rw [BkR.cells1, List.getElem?_eq_getElem (show 1 < xs.length by omega)] at g1
        obtain ⟨i1, q1, _, w1⟩ := DataW.trod_int Try.underlying42 g1
        simp at q1
        subst q0 q1
        have e0 := hcell 0 (by omega)
        have e1 := hcell 1 (by omega)
        rw [Go.Deep.add_add] at e0 e1
        have b0 := bounds_u16 w0
        have b1 := bounds_u16 w1
        refine ⟨(i0.toNat, i1.toNat), by show i0.toNat < 65536; omega, by show i1.toNat < 65536; omega, ?_, ?_⟩
        · have : ((i0.toNat : Nat) : Int) = i0 := by omega
          rw [this]
          exact e0
        · have : ((i1.toNat : Nat) : Int) = i1 := by omega
          rw [this]
          exact e1
    obtain ⟨q, hq⟩ := Go.Deep.choose_lt each
    refine ⟨(List.range n).map q, by simp, hl, by omega, ?_⟩
    by_cases h0 : n = 0
    · exact .inl h0
    · obtain ⟨b, off, spot⟩ := x
      have hc0 := (hq 0 (by omega)).2.2.1
      have hspot : spot = none := by simpa [Addr.add] using World.cell?_spot hc0
      subst hspot
      have hlt : b < w.heap.size := by
        have := hc0
        simp only [Addr.add, World.cell?] at this
        rcases Nat.lt_or_ge b w.heap.size with h9 | h9
        · exact h9
        · simp [h9] at this
      refine .inr ⟨b, off, rfl, hlt, fun i z hz => ?_⟩
      have hi := (List.getElem?_eq_some_iff.1 hz).1
      simp at hi
      rw [List.getElem?_map, List.getElem?_range hi] at hz
      simp at hz
      subst hz
      obtain ⟨h1, h2, h3, h4⟩ := hq i hi
      have ea : ∀ j, (⟨b, off, none⟩ : Addr).add j = ⟨b, off + j, none⟩ := by
        intro j
        unfold Addr.add
        split
        · subst_vars; rfl
        · rfl
      rw [ea] at h3 h4
      exact ⟨h1, h2, h3, by rw [Nat.add_assoc]; exact h4⟩
end Go.Proofs.Ytjaheelgcjafcaa
namespace Go.Proofs.Ytjaheelgcjafcaa
open Go.RowKit Go.ChangeShapes Go.WideShapes Go.ChangeAt
structure PqD where
  kind : Nat
  dataA : Option Addr
  dataN : Nat
  dataC : Nat
  dataZ : List Nat
instance : Inhabited PqD := ⟨⟨0, none, 0, 0, []⟩⟩
def PqD.vals (x : PqD) : List Value := [.int .u16 (x.kind : Nat), .slice x.dataA x.dataN x.dataC]
def PqD.Wf (w : World) (x : PqD) : Prop := x.kind < 65536 ∧ (Sl w x.dataA x.dataN x.dataC x.dataZ ∧ x.dataN ≤ 140737488351232)
structure SlPq (w : World) (a : Option Addr) (n c : Nat) (dd : List PqD) : Prop where
  len : dd.length = n
  cap : n ≤ c
  less : n ≤ 4398046511104
  at_ : n = 0 ∨ ∃ b off, a = some ⟨b, off, none⟩ ∧ b < w.heap.size ∧ ∀ i x, dd[i]? = some x → ∀ j v, x.vals[j]? = some v → w.cell? ⟨b, off + i * 2 + j, none⟩ = some v
  wf : ∀ x ∈ dd, x.Wf w
theorem SlPq.small {w : World} {a : Option Addr} {n c : Nat} {dd : List PqD} (h : SlPq w a n c dd) : n ≤ 281474976710656 := Nat.le_trans h.less (by decide)
theorem SlPq.below {w w' : World} {a : Option Addr} {n c : Nat} {dd : List PqD} (h : SlPq w a n c dd) (hb : Below w.heap.size w w') : SlPq w' a n c dd := by
  refine ⟨h.len, h.cap, h.less, ?_, fun x hx => ?_⟩
  · rcases h.at_ with h0 | ⟨b, off, rfl, hlt, hc⟩
    · exact .inl h0
    · exact .inr ⟨b, off, rfl, Nat.lt_of_lt_of_le hlt hb.size, fun i x hx j v hv => (hb.cell (p := ⟨b, off + i * 2 + j, none⟩) hlt).trans (hc i x hx j v hv)⟩
  · have hh := h.wf x hx
    unfold PqD.Wf at hh ⊢
    obtain ⟨h0, h1⟩ := hh
    exact ⟨h0, ⟨h1.1.below hb, h1.2⟩⟩
theorem SlPq.wAll_mem {H : Type} {P : Program} {e : TypeId} : ∀ {ds : List (DataW H)} {d : DataW H}, d ∈ ds → ∀ n ∈ d.weights P e, n ∈ DataW.weightsAll P e ds
  | x :: ds, d, hd, n, hn => by
    unfold DataW.weightsAll
    rcases List.mem_cons.1 hd with rfl | h
    · exact List.mem_append_left _ hn
    · exact List.mem_append_right _ (SlPq.wAll_mem h n hn)
theorem SlPq.cells_uint16 : Try.prog.cellsOf 42 = 1 := by kernel_rfl
theorem SlPq.cells___uint8 : Try.prog.cellsOf 31 = 1 := by kernel_rfl
theorem SlPq.bytes_u8 : Try.prog.bytesOf 5 = 1 := by kernel_rfl
theorem SlPq.open_bytes {H : Type} {enc : TypeId × Value → H} {w : World} {base : Nat} {held : Bool} {fuel : Nat} {v : Value} {y : DataW H × List MemPlace}
    (h : DataW.trod enc Try.prog w base (fun _ => true) held fuel 31 [v] = some y) (hw : ∀ n ∈ y.1.weights Try.prog 31, n ≤ reachBytes) : ∃ a n c zs, v = .slice a n c ∧ Sl w a n c zs ∧ c ≤ 140737488351232 := by
  rcases open_ints Try.underlying31 Try.underlying5 (by kernel_rfl) h with ⟨hcs, _⟩ | ⟨x, l, c, zs, hcs, _, hl, hm, hz, hx, hcell, hwz⟩
  · simp at hcs
    exact ⟨none, 0, 0, [], hcs, SlK.nil _ _ _ (by omega), by omega⟩
  · simp at hcs
    have hz' : zs.length = c := by simpa using hz
    have hb : (lits (H := H) .u8 (zs.take l)).length + (lits (H := H) .u8 (zs.drop l)).length ≤ reachBytes := by
      have := hw (((lits (H := H) .u8 (zs.take l)).length + (lits (H := H) .u8 (zs.drop l)).length) * Try.prog.bytesOf 5) (by
        rw [hx]
        unfold DataW.weights
        rw [Try.underlying31]
        simp)
      rwa [SlPq.bytes_u8, Nat.mul_one] at this
    simp only [lits, List.length_map, List.length_take, List.length_drop, reachBytes] at hb
    exact ⟨_, _, _, _, hcs, SlK.of_ints (by omega) (fun z hz => by simp [Lit.wf, IntKind.min, IntKind.max, IntKind.signed, IntKind.bits] at hz; omega) hl hm hz' (by omega) hcell hwz, by omega⟩
theorem SlPq.open_all_fields : ∃ f0 f1 : Field, Try.prog.underlying 129 = some (.struct #[f0, f1]) ∧ f0.offset = 0 ∧ f1.offset = 1 ∧ f0.type = 42 ∧ f1.type = 31 := ⟨_, _, Try.underlying129, rfl, rfl, rfl, rfl⟩
set_option linter.unusedVariables false in
set_option maxRecDepth 100000 in
theorem SlPq.open_all {H : Type} {enc : TypeId × Value → H} {w : World} {base : Nat} {held : Bool} {fuel : Nat} {cl : List Value} {y : DataW H × List MemPlace} (hl : cl.length = 2)
    (h : DataW.trod enc Try.prog w base (fun _ => true) held fuel 129 cl = some y) (hw : ∀ n ∈ y.1.weights Try.prog 129, n ≤ reachBytes) :
    ∃ (kind : Nat) (dataA : Option Addr) (dataN dataC : Nat) (dataZ : List Nat), cl = [.int .u16 (kind : Nat), .slice dataA dataN dataC] ∧ kind < 65536 ∧ (Sl w dataA dataN dataC dataZ ∧ dataC ≤ 140737488351232) := by
  obtain ⟨f0, f1, he, o0, o1, t0, t1⟩ := SlPq.open_all_fields
  obtain ⟨xs, m, _, hx, _, hlen, hfs⟩ := DataW.trod_struct he h
  have hlen2 : xs.length = 2 := hlen
  match cl, hl, xs, hlen2 with
  | [v0, v1], _, [y0, y1], _ =>
    have hd := congrArg Prod.fst hx
    simp only [List.map_cons, List.map_nil] at hd
    have g0 := hfs 0 f0 rfl
    simp [o0, t0, SlPq.cells_uint16] at g0
    have g1 := hfs 1 f1 rfl
    simp [o1, t1, SlPq.cells___uint8] at g1
    obtain ⟨kindz, e0, _, w0⟩ := DataW.trod_int Try.underlying42 g0
    simp at e0
    subst e0
    obtain ⟨kind, rfl⟩ : ∃ m : Nat, kindz = (m : Int) := ⟨kindz.toNat, by have := bounds_u16 w0; omega⟩
    have b0 : kind < 65536 := by have := bounds_u16 w0; omega
    obtain ⟨dataA, dataN, dataC, dataZ, rfl, s1, b1⟩ := SlPq.open_bytes g1 (fun q hq => hw q (by
      rw [hd]
      unfold DataW.weights
      rw [he]
      exact DataW.weights_mem_each (j := 1) (t := f1.type) (d := y1.1) rfl rfl q (by rw [t1]; exact hq)))
    exact ⟨kind, dataA, dataN, dataC, dataZ, rfl, b0, ⟨s1, b1⟩⟩
theorem SlPq.cellsAll : Try.prog.cellsOf 129 = 2 := by kernel_rfl
theorem SlPq.bytesAll : Try.prog.bytesOf 129 = 32 := by kernel_rfl
theorem SlPq.open {H : Type} {enc : TypeId × Value → H} {w : World} {base : Nat} {held : Bool} {fuel : Nat} {a : Option Addr} {n c : Nat} {y : DataW H × List MemPlace}
    (h : DataW.trod enc Try.prog w base (fun _ => true) held fuel 45 [.slice a n c] = some y) (hw : ∀ n ∈ y.1.weights Try.prog 45, n ≤ reachBytes) : ∃ dd, SlPq w a n c dd := by
  rcases Go.Deep.open_slice Try.underlying45 h with ⟨hcs, _⟩ | ⟨x, l, k, m, fn, D, Pl, hcs, hb, hl, hm, hmm, hx, hc⟩
  · simp at hcs
    obtain ⟨rfl, rfl, rfl⟩ := hcs
    exact ⟨[], rfl, Nat.le_refl _, by omega, .inl rfl, fun x hx => (by cases hx)⟩
  · simp at hcs
    obtain ⟨rfl, rfl, rfl⟩ := hcs
    have hmc : m = c := by simpa using hmm
    subst hmc
    subst hx
    have hsz : m * 32 ≤ reachBytes := by
      have := hw ((((List.range n).map D).length + ((List.range (m - n)).map fun j => D (n + j)).length) * Try.prog.bytesOf 129) (by
        unfold DataW.weights
        rw [Try.underlying45]
        simp)
      rw [SlPq.bytesAll] at this
      simp at this
      omega
    simp only [reachBytes] at hsz
    rw [SlPq.cellsAll] at hc
    have hwi : ∀ i, i < n → ∀ q ∈ (D i).weights Try.prog 129, q ≤ reachBytes := by
      intro i hi q hq
      refine hw q ?_
      unfold DataW.weights
      rw [Try.underlying45]
      simp only [List.mem_cons, List.mem_append]
      exact .inr (.inl (SlPq.wAll_mem (List.mem_map.2 ⟨i, List.mem_range.2 hi, rfl⟩) q hq))
    have each : ∀ i, i < n → ∃ q : PqD, (∀ j v, q.vals[j]? = some v → w.cell? (x.add (i * 2 + j)) = some v) ∧ q.Wf w := by
      intro i hi
      obtain ⟨cs', h1, h2⟩ := hc i (by omega)
      obtain ⟨_, hlen, hcell⟩ := World.cells?_some h1
      obtain ⟨kind, dataA, dataN, dataC, dataZ, rfl, Hkind, Hdata⟩ := SlPq.open_all hlen h2 (hwi i hi)
      refine ⟨⟨kind, dataA, dataN, dataC, dataZ⟩, fun j v hv => ?_, ⟨Hkind, ⟨Hdata.1, Nat.le_trans Hdata.1.cap Hdata.2⟩⟩⟩
      have hj : j < 2 := (List.getElem?_eq_some_iff.1 hv).1
      have e := hcell j hj
      rw [Go.Deep.add_add] at e
      rw [e]
      exact hv
    obtain ⟨q, hq⟩ := Go.Deep.choose_lt each
    have hget : ∀ i z, ((List.range n).map q)[i]? = some z → i < n ∧ z = q i := fun i z hz => by
      have hi := (List.getElem?_eq_some_iff.1 hz).1
      simp at hi
      rw [List.getElem?_map, List.getElem?_range hi] at hz
      simp at hz
      exact ⟨hi, hz.symm⟩
    refine ⟨(List.range n).map q, by simp, hl, by omega, ?_, fun z hz => ?_⟩
    · by_cases h0 : n = 0
      · exact .inl h0
      · obtain ⟨b, off, spot⟩ := x
        have hc0 := (hq 0 (by omega)).1 0 _ rfl
        have hspot : spot = none := by simpa [Addr.add] using World.cell?_spot hc0
        subst hspot
        have hlt : b < w.heap.size := by
          have := hc0
          simp only [Addr.add, World.cell?] at this
          rcases Nat.lt_or_ge b w.heap.size with h9 | h9
          · exact h9
          · simp [h9] at this
        refine .inr ⟨b, off, rfl, hlt, fun i z hz j v hv => ?_⟩
        obtain ⟨hi, rfl⟩ := hget i z hz
        have h1 := (hq i hi).1 j v hv
        have ea : ∀ j, (⟨b, off, none⟩ : Addr).add j = ⟨b, off + j, none⟩ := by
          intro j
          unfold Addr.add
          split
          · subst_vars; rfl
          · rfl
        rw [ea] at h1
        rw [Nat.add_assoc]
        exact h1
    · obtain ⟨i, hi⟩ := List.getElem?_of_mem hz
      obtain ⟨hin, rfl⟩ := hget i z hi
      exact (hq i hin).2
set_option maxRecDepth 100000 in
/-- One, by value, as a parameter. -/
theorem SlPq.openV {H : Type} {enc : TypeId × Value → H} {w : World} {b0 base : Nat} {held : Bool} {v : Value} {d : DataW H} {p : List MemPlace}
    (hv : Value.okWide Try.prog w .any b0 129 v) (h : DataW.Trod enc Try.prog w base (fun _ => true) held 129 v d p) (hw : ∀ n ∈ d.weights Try.prog 129, n ≤ reachBytes) : ∃ x : PqD, v = .agg x.vals.toArray ∧ x.Wf w := by
  obtain ⟨f0, f1, he, _⟩ := SlPq.open_all_fields
  obtain ⟨cs, rfl, hsz⟩ := okWide_struct he hv
  rw [SlPq.cellsAll] at hsz
  obtain ⟨cl⟩ := cs
  obtain ⟨fuel, hf⟩ := h
  have hf2 : DataW.trod enc Try.prog w base (fun _ => true) held fuel 129 cl = some (d, p) := hf
  obtain ⟨kind, dataA, dataN, dataC, dataZ, rfl, Hkind, Hdata⟩ := SlPq.open_all hsz hf2 hw
  exact ⟨⟨kind, dataA, dataN, dataC, dataZ⟩, rfl, ⟨Hkind, ⟨Hdata.1, Nat.le_trans Hdata.1.cap Hdata.2⟩⟩⟩
end Go.Proofs.Ytjaheelgcjafcaa
namespace Go.Proofs.Ytjaheelgcjafcaa
open Go.RowKit Go.ChangeShapes Go.WideShapes Go.ChangeAt
structure ChQ where
  k : Nat
  f : Nat
  t : Nat
  st : Nat
  ss : Nat
  pp : Nat
  tg : Nat
  rm : Nat
  os : Nat
  is : Nat
  bA : Option Addr
  bN : Nat
  bC : Nat
  bD : List (Nat × Nat)
  dA : Option Addr
  dN : Nat
  dC : Nat
  dD : List Nat
  pA : Option Addr
  pN : Nat
  pC : Nat
  pD : List PqD
  xA : Option Addr
  xN : Nat
  xC : Nat
  xZ : List Nat
instance : Inhabited ChQ := ⟨⟨0, 0, 0, 0, 0, 0, 0, 0, 0, 0, none, 0, 0, [], none, 0, 0, [], none, 0, 0, [], none, 0, 0, []⟩⟩
def ChQ.vals (x : ChQ) : List Value := [.int .u8 (x.k : Nat), .int .u8 (x.f : Nat), .int .u32 (x.t : Nat), .int .u16 (x.st : Nat), .int .u16 (x.ss : Nat), .int .u32 (x.pp : Nat), .int .u32 (x.tg : Nat), .int .u32 (x.rm : Nat), .int .u16 (x.os : Nat), .int .u16 (x.is : Nat), .slice x.bA x.bN x.bC, .slice x.dA x.dN x.dC, .slice x.pA x.pN x.pC, .slice x.xA x.xN x.xC]
def ChQ.Wf (w : World) (x : ChQ) : Prop := x.k < 256 ∧ x.f < 256 ∧ x.t < 4294967296 ∧ x.st < 65536 ∧ x.ss < 65536 ∧ x.pp < 4294967296 ∧ x.tg < 4294967296 ∧ x.rm < 4294967296 ∧ x.os < 65536 ∧ x.is < 65536 ∧ (BkR w x.bA x.bN x.bC x.bD) ∧ (SlDu w x.dA x.dN x.dC x.dD) ∧ (SlPq w x.pA x.pN x.pC x.pD) ∧ (Sl w x.xA x.xN x.xC x.xZ ∧ x.xN ≤ 140737488351232 ∧ x.dN ≤ 35184372088832)
structure SlCq (w : World) (a : Option Addr) (n c : Nat) (dd : List ChQ) : Prop where
  len : dd.length = n
  cap : n ≤ c
  less : n ≤ 1099511627776
  at_ : n = 0 ∨ ∃ b off, a = some ⟨b, off, none⟩ ∧ b < w.heap.size ∧ ∀ i x, dd[i]? = some x → ∀ j v, x.vals[j]? = some v → w.cell? ⟨b, off + i * 14 + j, none⟩ = some v
  wf : ∀ x ∈ dd, x.Wf w
theorem SlCq.small {w : World} {a : Option Addr} {n c : Nat} {dd : List ChQ} (h : SlCq w a n c dd) : n ≤ 281474976710656 := Nat.le_trans h.less (by decide)
theorem SlCq.below {w w' : World} {a : Option Addr} {n c : Nat} {dd : List ChQ} (h : SlCq w a n c dd) (hb : Below w.heap.size w w') : SlCq w' a n c dd := by
  refine ⟨h.len, h.cap, h.less, ?_, fun x hx => ?_⟩
  · rcases h.at_ with h0 | ⟨b, off, rfl, hlt, hc⟩
    · exact .inl h0
    · exact .inr ⟨b, off, rfl, Nat.lt_of_lt_of_le hlt hb.size, fun i x hx j v hv => (hb.cell (p := ⟨b, off + i * 14 + j, none⟩) hlt).trans (hc i x hx j v hv)⟩
  · have hh := h.wf x hx
    unfold ChQ.Wf at hh ⊢
    obtain ⟨h0, h1, h2, h3, h4, h5, h6, h7, h8, h9, h10, h11, h12, h13⟩ := hh
    exact ⟨h0, h1, h2, h3, h4, h5, h6, h7, h8, h9, h10.below hb, h11.below hb, h12.below hb, ⟨h13.1.below hb, h13.2⟩⟩
theorem SlCq.wAll_mem {H : Type} {P : Program} {e : TypeId} : ∀ {ds : List (DataW H)} {d : DataW H}, d ∈ ds → ∀ n ∈ d.weights P e, n ∈ DataW.weightsAll P e ds
  | x :: ds, d, hd, n, hn => by
    unfold DataW.weightsAll
    rcases List.mem_cons.1 hd with rfl | h
    · exact List.mem_append_left _ hn
    · exact List.mem_append_right _ (SlCq.wAll_mem h n hn)
theorem SlCq.cells_uint8 : Try.prog.cellsOf 5 = 1 := by kernel_rfl
theorem SlCq.cells_uint32 : Try.prog.cellsOf 30 = 1 := by kernel_rfl
theorem SlCq.cells_uint16 : Try.prog.cellsOf 42 = 1 := by kernel_rfl
theorem SlCq.cells____2_uint16 : Try.prog.cellsOf 43 = 1 := by kernel_rfl
theorem SlCq.cells___uint32 : Try.prog.cellsOf 44 = 1 := by kernel_rfl
theorem SlCq.cells___api_Param : Try.prog.cellsOf 45 = 1 := by kernel_rfl
theorem SlCq.cells___uint8 : Try.prog.cellsOf 31 = 1 := by kernel_rfl
theorem SlCq.bytes_u8 : Try.prog.bytesOf 5 = 1 := by kernel_rfl
theorem SlCq.open_bytes {H : Type} {enc : TypeId × Value → H} {w : World} {base : Nat} {held : Bool} {fuel : Nat} {v : Value} {y : DataW H × List MemPlace}
    (h : DataW.trod enc Try.prog w base (fun _ => true) held fuel 31 [v] = some y) (hw : ∀ n ∈ y.1.weights Try.prog 31, n ≤ reachBytes) : ∃ a n c zs, v = .slice a n c ∧ Sl w a n c zs ∧ c ≤ 140737488351232 := by
  rcases open_ints Try.underlying31 Try.underlying5 (by kernel_rfl) h with ⟨hcs, _⟩ | ⟨x, l, c, zs, hcs, _, hl, hm, hz, hx, hcell, hwz⟩
  · simp at hcs
    exact ⟨none, 0, 0, [], hcs, SlK.nil _ _ _ (by omega), by omega⟩
  · simp at hcs
    have hz' : zs.length = c := by simpa using hz
    have hb : (lits (H := H) .u8 (zs.take l)).length + (lits (H := H) .u8 (zs.drop l)).length ≤ reachBytes := by
      have := hw (((lits (H := H) .u8 (zs.take l)).length + (lits (H := H) .u8 (zs.drop l)).length) * Try.prog.bytesOf 5) (by
        rw [hx]
        unfold DataW.weights
        rw [Try.underlying31]
        simp)
      rwa [SlCq.bytes_u8, Nat.mul_one] at this
    simp only [lits, List.length_map, List.length_take, List.length_drop, reachBytes] at hb
    exact ⟨_, _, _, _, hcs, SlK.of_ints (by omega) (fun z hz => by simp [Lit.wf, IntKind.min, IntKind.max, IntKind.signed, IntKind.bits] at hz; omega) hl hm hz' (by omega) hcell hwz, by omega⟩
theorem SlCq.any_cells____2_uint16 {H : Type} {enc : TypeId × Value → H} {w : World} {base : Nat} {held : Bool} {fuel : Nat} {v : Value} {y : DataW H × List MemPlace}
    (h : DataW.trod enc Try.prog w base (fun _ => true) held fuel 43 [v] = some y) (hw : ∀ n ∈ y.1.weights Try.prog 43, n ≤ reachBytes) : ∃ a n c, v = .slice a n c ∧ n ≤ 281474976710656 := by
  have hbe : Try.prog.bytesOf 154 = 4 := by kernel_rfl
  rcases Go.Deep.open_slice Try.underlying43 h with ⟨hcs, _⟩ | ⟨x, l, k, m, fn, D, Pl, hcs, hb, hl, hm, hmm, hx, hc⟩
  · simp at hcs
    exact ⟨none, 0, 0, hcs, by omega⟩
  · simp at hcs
    subst hx
    have hmc : m = k := by simpa using hmm
    have hsz : m * 4 ≤ reachBytes := by
      have := hw ((((List.range l).map D).length + ((List.range (m - l)).map fun j => D (l + j)).length) * Try.prog.bytesOf 154) (by
        unfold DataW.weights
        rw [Try.underlying43]
        simp)
      rw [hbe] at this
      simp at this
      omega
    simp only [reachBytes] at hsz
    exact ⟨_, l, k, hcs, by omega⟩
theorem SlCq.any_cells___api_Param {H : Type} {enc : TypeId × Value → H} {w : World} {base : Nat} {held : Bool} {fuel : Nat} {v : Value} {y : DataW H × List MemPlace}
    (h : DataW.trod enc Try.prog w base (fun _ => true) held fuel 45 [v] = some y) (hw : ∀ n ∈ y.1.weights Try.prog 45, n ≤ reachBytes) : ∃ a n c, v = .slice a n c ∧ n ≤ 281474976710656 := by
  have hbe : Try.prog.bytesOf 129 = 32 := by kernel_rfl
  rcases Go.Deep.open_slice Try.underlying45 h with ⟨hcs, _⟩ | ⟨x, l, k, m, fn, D, Pl, hcs, hb, hl, hm, hmm, hx, hc⟩
  · simp at hcs
    exact ⟨none, 0, 0, hcs, by omega⟩
  · simp at hcs
    subst hx
    have hmc : m = k := by simpa using hmm
    have hsz : m * 32 ≤ reachBytes := by
      have := hw ((((List.range l).map D).length + ((List.range (m - l)).map fun j => D (l + j)).length) * Try.prog.bytesOf 129) (by
        unfold DataW.weights
        rw [Try.underlying45]
        simp)
      rw [hbe] at this
      simp at this
      omega
    simp only [reachBytes] at hsz
    exact ⟨_, l, k, hcs, by omega⟩
theorem SlCq.any_cells___uint32 {H : Type} {enc : TypeId × Value → H} {w : World} {base : Nat} {held : Bool} {fuel : Nat} {v : Value} {y : DataW H × List MemPlace}
    (h : DataW.trod enc Try.prog w base (fun _ => true) held fuel 44 [v] = some y) (hw : ∀ n ∈ y.1.weights Try.prog 44, n ≤ reachBytes) : ∃ a n c, v = .slice a n c ∧ n ≤ 35184372088832 := by
  have hbe : Try.prog.bytesOf 30 = 4 := by kernel_rfl
  rcases Go.Deep.open_slice Try.underlying44 h with ⟨hcs, _⟩ | ⟨x, l, k, m, fn, D, Pl, hcs, hb, hl, hm, hmm, hx, hc⟩
  · simp at hcs
    exact ⟨none, 0, 0, hcs, by omega⟩
  · simp at hcs
    subst hx
    have hmc : m = k := by simpa using hmm
    have hsz : m * 4 ≤ reachBytes := by
      have := hw ((((List.range l).map D).length + ((List.range (m - l)).map fun j => D (l + j)).length) * Try.prog.bytesOf 30) (by
        unfold DataW.weights
        rw [Try.underlying44]
        simp)
      rw [hbe] at this
      simp at this
      omega
    simp only [reachBytes] at hsz
    exact ⟨_, l, k, hcs, by omega⟩
theorem SlCq.open_all_fields : ∃ f0 f1 f2 f3 f4 f5 f6 f7 f8 f9 f10 f11 f12 f13 : Field, Try.prog.underlying 47 = some (.struct #[f0, f1, f2, f3, f4, f5, f6, f7, f8, f9, f10, f11, f12, f13]) ∧ f0.offset = 0 ∧ f1.offset = 1 ∧ f2.offset = 2 ∧ f3.offset = 3 ∧ f4.offset = 4 ∧ f5.offset = 5 ∧ f6.offset = 6 ∧ f7.offset = 7 ∧ f8.offset = 8 ∧ f9.offset = 9 ∧ f10.offset = 10 ∧ f11.offset = 11 ∧ f12.offset = 12 ∧ f13.offset = 13 ∧ f0.type = 5 ∧ f1.type = 5 ∧ f2.type = 30 ∧ f3.type = 42 ∧ f4.type = 42 ∧ f5.type = 30 ∧ f6.type = 30 ∧ f7.type = 30 ∧ f8.type = 42 ∧ f9.type = 42 ∧ f10.type = 43 ∧ f11.type = 44 ∧ f12.type = 45 ∧ f13.type = 31 := ⟨_, _, _, _, _, _, _, _, _, _, _, _, _, _, Try.underlying47, rfl, rfl, rfl, rfl, rfl, rfl, rfl, rfl, rfl, rfl, rfl, rfl, rfl, rfl, rfl, rfl, rfl, rfl, rfl, rfl, rfl, rfl, rfl, rfl, rfl, rfl, rfl, rfl⟩
set_option linter.unusedVariables false in
set_option maxRecDepth 100000 in
theorem SlCq.open_all {H : Type} {enc : TypeId × Value → H} {w : World} {base : Nat} {held : Bool} {fuel : Nat} {cl : List Value} {y : DataW H × List MemPlace} (hl : cl.length = 14)
    (h : DataW.trod enc Try.prog w base (fun _ => true) held fuel 47 cl = some y) (hw : ∀ n ∈ y.1.weights Try.prog 47, n ≤ reachBytes) :
    ∃ (k : Nat) (f : Nat) (t : Nat) (st : Nat) (ss : Nat) (pp : Nat) (tg : Nat) (rm : Nat) (os : Nat) (is : Nat) (bA : Option Addr) (bN bC : Nat) (bD : List (Nat × Nat)) (dA : Option Addr) (dN dC : Nat) (dD : List Nat) (pA : Option Addr) (pN pC : Nat) (pD : List PqD) (xA : Option Addr) (xN xC : Nat) (xZ : List Nat), cl = [.int .u8 (k : Nat), .int .u8 (f : Nat), .int .u32 (t : Nat), .int .u16 (st : Nat), .int .u16 (ss : Nat), .int .u32 (pp : Nat), .int .u32 (tg : Nat), .int .u32 (rm : Nat), .int .u16 (os : Nat), .int .u16 (is : Nat), .slice bA bN bC, .slice dA dN dC, .slice pA pN pC, .slice xA xN xC] ∧ k < 256 ∧ f < 256 ∧ t < 4294967296 ∧ st < 65536 ∧ ss < 65536 ∧ pp < 4294967296 ∧ tg < 4294967296 ∧ rm < 4294967296 ∧ os < 65536 ∧ is < 65536 ∧ (BkR w bA bN bC bD) ∧ (SlDu w dA dN dC dD) ∧ (SlPq w pA pN pC pD) ∧ (Sl w xA xN xC xZ ∧ xC ≤ 140737488351232 ∧ dN ≤ 35184372088832) := by
  obtain ⟨f0, f1, f2, f3, f4, f5, f6, f7, f8, f9, f10, f11, f12, f13, he, o0, o1, o2, o3, o4, o5, o6, o7, o8, o9, o10, o11, o12, o13, t0, t1, t2, t3, t4, t5, t6, t7, t8, t9, t10, t11, t12, t13⟩ := SlCq.open_all_fields
  obtain ⟨xs, m, _, hx, _, hlen, hfs⟩ := DataW.trod_struct he h
  have hlen2 : xs.length = 14 := hlen
  match cl, hl, xs, hlen2 with
  | [v0, v1, v2, v3, v4, v5, v6, v7, v8, v9, v10, v11, v12, v13], _, [y0, y1, y2, y3, y4, y5, y6, y7, y8, y9, y10, y11, y12, y13], _ =>
    have hd := congrArg Prod.fst hx
    simp only [List.map_cons, List.map_nil] at hd
    have g0 := hfs 0 f0 rfl
    simp [o0, t0, SlCq.cells_uint8] at g0
    have g1 := hfs 1 f1 rfl
    simp [o1, t1, SlCq.cells_uint8] at g1
    have g2 := hfs 2 f2 rfl
    simp [o2, t2, SlCq.cells_uint32] at g2
    have g3 := hfs 3 f3 rfl
    simp [o3, t3, SlCq.cells_uint16] at g3
    have g4 := hfs 4 f4 rfl
    simp [o4, t4, SlCq.cells_uint16] at g4
    have g5 := hfs 5 f5 rfl
    simp [o5, t5, SlCq.cells_uint32] at g5
    have g6 := hfs 6 f6 rfl
    simp [o6, t6, SlCq.cells_uint32] at g6
    have g7 := hfs 7 f7 rfl
    simp [o7, t7, SlCq.cells_uint32] at g7
    have g8 := hfs 8 f8 rfl
    simp [o8, t8, SlCq.cells_uint16] at g8
    have g9 := hfs 9 f9 rfl
    simp [o9, t9, SlCq.cells_uint16] at g9
    have g10 := hfs 10 f10 rfl
    simp [o10, t10, SlCq.cells____2_uint16] at g10
    have g11 := hfs 11 f11 rfl
    simp [o11, t11, SlCq.cells___uint32] at g11
    have g12 := hfs 12 f12 rfl
    simp [o12, t12, SlCq.cells___api_Param] at g12
    have g13 := hfs 13 f13 rfl
    simp [o13, t13, SlCq.cells___uint8] at g13
    obtain ⟨kz, e0, _, w0⟩ := DataW.trod_int Try.underlying5 g0
    simp at e0
    subst e0
    obtain ⟨k, rfl⟩ : ∃ m : Nat, kz = (m : Int) := ⟨kz.toNat, by have := bounds_u8 w0; omega⟩
    have b0 : k < 256 := by have := bounds_u8 w0; omega
    obtain ⟨fz, e1, _, w1⟩ := DataW.trod_int Try.underlying5 g1
    simp at e1
    subst e1
    obtain ⟨f, rfl⟩ : ∃ m : Nat, fz = (m : Int) := ⟨fz.toNat, by have := bounds_u8 w1; omega⟩
    have b1 : f < 256 := by have := bounds_u8 w1; omega
    obtain ⟨tz, e2, _, w2⟩ := DataW.trod_int Try.underlying30 g2
    simp at e2
    subst e2
    obtain ⟨t, rfl⟩ : ∃ m : Nat, tz = (m : Int) := ⟨tz.toNat, by have := bounds_u32 w2; omega⟩
    have b2 : t < 4294967296 := by have := bounds_u32 w2; omega
    obtain ⟨stz, e3, _, w3⟩ := DataW.trod_int Try.underlying42 g3
    simp at e3
    subst e3
    obtain ⟨st, rfl⟩ : ∃ m : Nat, stz = (m : Int) := ⟨stz.toNat, by have := bounds_u16 w3; omega⟩
    have b3 : st < 65536 := by have := bounds_u16 w3; omega
    obtain ⟨ssz, e4, _, w4⟩ := DataW.trod_int Try.underlying42 g4
    simp at e4
    subst e4
    obtain ⟨ss, rfl⟩ : ∃ m : Nat, ssz = (m : Int) := ⟨ssz.toNat, by have := bounds_u16 w4; omega⟩
    have b4 : ss < 65536 := by have := bounds_u16 w4; omega
    obtain ⟨ppz, e5, _, w5⟩ := DataW.trod_int Try.underlying30 g5
    simp at e5
    subst e5
    obtain ⟨pp, rfl⟩ : ∃ m : Nat, ppz = (m : Int) := ⟨ppz.toNat, by have := bounds_u32 w5; omega⟩
    have b5 : pp < 4294967296 := by have := bounds_u32 w5; omega
    obtain ⟨tgz, e6, _, w6⟩ := DataW.trod_int Try.underlying30 g6
    simp at e6
    subst e6
    obtain ⟨tg, rfl⟩ : ∃ m : Nat, tgz = (m : Int) := ⟨tgz.toNat, by have := bounds_u32 w6; omega⟩
    have b6 : tg < 4294967296 := by have := bounds_u32 w6; omega
    obtain ⟨rmz, e7, _, w7⟩ := DataW.trod_int Try.underlying30 g7
    simp at e7
    subst e7
    obtain ⟨rm, rfl⟩ : ∃ m : Nat, rmz = (m : Int) := ⟨rmz.toNat, by have := bounds_u32 w7; omega⟩
    have b7 : rm < 4294967296 := by have := bounds_u32 w7; omega
    obtain ⟨osz, e8, _, w8⟩ := DataW.trod_int Try.underlying42 g8
    simp at e8
    subst e8
    obtain ⟨os, rfl⟩ : ∃ m : Nat, osz = (m : Int) := ⟨osz.toNat, by have := bounds_u16 w8; omega⟩
    have b8 : os < 65536 := by have := bounds_u16 w8; omega
    obtain ⟨isz, e9, _, w9⟩ := DataW.trod_int Try.underlying42 g9
    simp at e9
    subst e9
    obtain ⟨is, rfl⟩ : ∃ m : Nat, isz = (m : Int) := ⟨isz.toNat, by have := bounds_u16 w9; omega⟩
    have b9 : is < 65536 := by have := bounds_u16 w9; omega
    obtain ⟨bA, bN, bC, rfl, _⟩ := SlCq.any_cells____2_uint16 g10 (fun q hq => hw q (by
      rw [hd]
      unfold DataW.weights
      rw [he]
      exact DataW.weights_mem_each (j := 10) (t := f10.type) (d := y10.1) rfl rfl q (by rw [t10]; exact hq)))
    obtain ⟨bD, b10⟩ := BkR.open g10 (fun q hq => hw q (by
      rw [hd]
      unfold DataW.weights
      rw [he]
      exact DataW.weights_mem_each (j := 10) (t := f10.type) (d := y10.1) rfl rfl q (by rw [t10]; exact hq)))
    obtain ⟨dA, dN, dC, rfl, bdN⟩ := SlCq.any_cells___uint32 g11 (fun q hq => hw q (by
      rw [hd]
      unfold DataW.weights
      rw [he]
      exact DataW.weights_mem_each (j := 11) (t := f11.type) (d := y11.1) rfl rfl q (by rw [t11]; exact hq)))
    obtain ⟨dD, b11⟩ := SlDu.open g11 (fun q hq => hw q (by
      rw [hd]
      unfold DataW.weights
      rw [he]
      exact DataW.weights_mem_each (j := 11) (t := f11.type) (d := y11.1) rfl rfl q (by rw [t11]; exact hq)))
    obtain ⟨pA, pN, pC, rfl, _⟩ := SlCq.any_cells___api_Param g12 (fun q hq => hw q (by
      rw [hd]
      unfold DataW.weights
      rw [he]
      exact DataW.weights_mem_each (j := 12) (t := f12.type) (d := y12.1) rfl rfl q (by rw [t12]; exact hq)))
    obtain ⟨pD, b12⟩ := SlPq.open g12 (fun q hq => hw q (by
      rw [hd]
      unfold DataW.weights
      rw [he]
      exact DataW.weights_mem_each (j := 12) (t := f12.type) (d := y12.1) rfl rfl q (by rw [t12]; exact hq)))
    obtain ⟨xA, xN, xC, xZ, rfl, s13, b13⟩ := SlCq.open_bytes g13 (fun q hq => hw q (by
      rw [hd]
      unfold DataW.weights
      rw [he]
      exact DataW.weights_mem_each (j := 13) (t := f13.type) (d := y13.1) rfl rfl q (by rw [t13]; exact hq)))
    exact ⟨k, f, t, st, ss, pp, tg, rm, os, is, bA, bN, bC, bD, dA, dN, dC, dD, pA, pN, pC, pD, xA, xN, xC, xZ, rfl, b0, b1, b2, b3, b4, b5, b6, b7, b8, b9, b10, b11, b12, ⟨s13, b13, bdN⟩⟩
theorem SlCq.cellsAll : Try.prog.cellsOf 47 = 14 := by kernel_rfl
theorem SlCq.bytesAll : Try.prog.bytesOf 47 = 128 := by kernel_rfl
theorem SlCq.open {H : Type} {enc : TypeId × Value → H} {w : World} {base : Nat} {held : Bool} {fuel : Nat} {a : Option Addr} {n c : Nat} {y : DataW H × List MemPlace}
    (h : DataW.trod enc Try.prog w base (fun _ => true) held fuel 22 [.slice a n c] = some y) (hw : ∀ n ∈ y.1.weights Try.prog 22, n ≤ reachBytes) : ∃ dd, SlCq w a n c dd := by
  rcases Go.Deep.open_slice Try.underlying22 h with ⟨hcs, _⟩ | ⟨x, l, k, m, fn, D, Pl, hcs, hb, hl, hm, hmm, hx, hc⟩
  · simp at hcs
    obtain ⟨rfl, rfl, rfl⟩ := hcs
    exact ⟨[], rfl, Nat.le_refl _, by omega, .inl rfl, fun x hx => (by cases hx)⟩
  · simp at hcs
    obtain ⟨rfl, rfl, rfl⟩ := hcs
    have hmc : m = c := by simpa using hmm
    subst hmc
    subst hx
    have hsz : m * 128 ≤ reachBytes := by
      have := hw ((((List.range n).map D).length + ((List.range (m - n)).map fun j => D (n + j)).length) * Try.prog.bytesOf 47) (by
        unfold DataW.weights
        rw [Try.underlying22]
        simp)
      rw [SlCq.bytesAll] at this
      simp at this
      omega
    simp only [reachBytes] at hsz
    rw [SlCq.cellsAll] at hc
    have hwi : ∀ i, i < n → ∀ q ∈ (D i).weights Try.prog 47, q ≤ reachBytes := by
      intro i hi q hq
      refine hw q ?_
      unfold DataW.weights
      rw [Try.underlying22]
      simp only [List.mem_cons, List.mem_append]
      exact .inr (.inl (SlCq.wAll_mem (List.mem_map.2 ⟨i, List.mem_range.2 hi, rfl⟩) q hq))
    have each : ∀ i, i < n → ∃ q : ChQ, (∀ j v, q.vals[j]? = some v → w.cell? (x.add (i * 14 + j)) = some v) ∧ q.Wf w := by
      intro i hi
      obtain ⟨cs', h1, h2⟩ := hc i (by omega)
      obtain ⟨_, hlen, hcell⟩ := World.cells?_some h1
      obtain ⟨k, f, t, st, ss, pp, tg, rm, os, is, bA, bN, bC, bD, dA, dN, dC, dD, pA, pN, pC, pD, xA, xN, xC, xZ, rfl, Hk, Hf, Ht, Hst, Hss, Hpp, Htg, Hrm, Hos, His, Hb, Hd, Hp, Hx⟩ := SlCq.open_all hlen h2 (hwi i hi)
      refine ⟨⟨k, f, t, st, ss, pp, tg, rm, os, is, bA, bN, bC, bD, dA, dN, dC, dD, pA, pN, pC, pD, xA, xN, xC, xZ⟩, fun j v hv => ?_, ⟨Hk, Hf, Ht, Hst, Hss, Hpp, Htg, Hrm, Hos, His, Hb, Hd, Hp, ⟨Hx.1, Nat.le_trans Hx.1.cap Hx.2.1, Hx.2.2⟩⟩⟩
      have hj : j < 14 := (List.getElem?_eq_some_iff.1 hv).1
      have e := hcell j hj
      rw [Go.Deep.add_add] at e
      rw [e]
      exact hv
    obtain ⟨q, hq⟩ := Go.Deep.choose_lt each
    have hget : ∀ i z, ((List.range n).map q)[i]? = some z → i < n ∧ z = q i := fun i z hz => by
      have hi := (List.getElem?_eq_some_iff.1 hz).1
      simp at hi
      rw [List.getElem?_map, List.getElem?_range hi] at hz
      simp at hz
      exact ⟨hi, hz.symm⟩
    refine ⟨(List.range n).map q, by simp, hl, by omega, ?_, fun z hz => ?_⟩
    · by_cases h0 : n = 0
      · exact .inl h0
      · obtain ⟨b, off, spot⟩ := x
        have hc0 := (hq 0 (by omega)).1 0 _ rfl
        have hspot : spot = none := by simpa [Addr.add] using World.cell?_spot hc0
        subst hspot
        have hlt : b < w.heap.size := by
          have := hc0
          simp only [Addr.add, World.cell?] at this
          rcases Nat.lt_or_ge b w.heap.size with h9 | h9
          · exact h9
          · simp [h9] at this
        refine .inr ⟨b, off, rfl, hlt, fun i z hz j v hv => ?_⟩
        obtain ⟨hi, rfl⟩ := hget i z hz
        have h1 := (hq i hi).1 j v hv
        have ea : ∀ j, (⟨b, off, none⟩ : Addr).add j = ⟨b, off + j, none⟩ := by
          intro j
          unfold Addr.add
          split
          · subst_vars; rfl
          · rfl
        rw [ea] at h1
        rw [Nat.add_assoc]
        exact h1
    · obtain ⟨i, hi⟩ := List.getElem?_of_mem hz
      obtain ⟨hin, rfl⟩ := hget i z hi
      exact (hq i hin).2
set_option maxRecDepth 100000 in
/-- One, by value, as a parameter. -/
theorem SlCq.openV {H : Type} {enc : TypeId × Value → H} {w : World} {b0 base : Nat} {held : Bool} {v : Value} {d : DataW H} {p : List MemPlace}
    (hv : Value.okWide Try.prog w .any b0 47 v) (h : DataW.Trod enc Try.prog w base (fun _ => true) held 47 v d p) (hw : ∀ n ∈ d.weights Try.prog 47, n ≤ reachBytes) : ∃ x : ChQ, v = .agg x.vals.toArray ∧ x.Wf w := by
  obtain ⟨f0, f1, f2, f3, f4, f5, f6, f7, f8, f9, f10, f11, f12, f13, he, _⟩ := SlCq.open_all_fields
  obtain ⟨cs, rfl, hsz⟩ := okWide_struct he hv
  rw [SlCq.cellsAll] at hsz
  obtain ⟨cl⟩ := cs
  obtain ⟨fuel, hf⟩ := h
  have hf2 : DataW.trod enc Try.prog w base (fun _ => true) held fuel 47 cl = some (d, p) := hf
  obtain ⟨k, f, t, st, ss, pp, tg, rm, os, is, bA, bN, bC, bD, dA, dN, dC, dD, pA, pN, pC, pD, xA, xN, xC, xZ, rfl, Hk, Hf, Ht, Hst, Hss, Hpp, Htg, Hrm, Hos, His, Hb, Hd, Hp, Hx⟩ := SlCq.open_all hsz hf2 hw
  exact ⟨⟨k, f, t, st, ss, pp, tg, rm, os, is, bA, bN, bC, bD, dA, dN, dC, dD, pA, pN, pC, pD, xA, xN, xC, xZ⟩, rfl, ⟨Hk, Hf, Ht, Hst, Hss, Hpp, Htg, Hrm, Hos, His, Hb, Hd, Hp, ⟨Hx.1, Nat.le_trans Hx.1.cap Hx.2.1, Hx.2.2⟩⟩⟩
end Go.Proofs.Ytjaheelgcjafcaa
namespace Go.Proofs.Ytjaheelgcjafcaa
open Go.RowKit
/-- A parameter as data. -/
structure Pm where
  k : Nat
  zs : List Nat
/-- A row of parameters, and what they hold. -/
structure PmR (w : World) (a : Option Addr) (n c : Nat) (ps : List Pm) : Prop where
  len : ps.length = n
  cap : n ≤ c
  small : n ≤ 281474976710656
  at_ : n = 0 ∨ ∃ b off, a = some ⟨b, off, none⟩ ∧ b < w.heap.size ∧ ∀ i p, ps[i]? = some p → p.k < 65536 ∧ ∃ va vc, w.cell? ⟨b, off + i * 2, none⟩ = some (.int .u16 (p.k : Nat)) ∧ w.cell? ⟨b, off + i * 2 + 1, none⟩ = some (.slice va p.zs.length vc) ∧ Sl w va p.zs.length vc p.zs
def pmB (p : Pm) : List Nat := bytesB p.k 2 ++ (bytesB (4 + p.zs.length) 2 ++ (p.zs ++ List.replicate (padN p.zs.length) 0))
def pmsB (ps : List Pm) : List Nat := ps.flatMap pmB
theorem padN_lt (n : Nat) : padN n ≤ 3 := by unfold padN; omega
theorem pmB_len (p : Pm) : (pmB p).length = 4 + p.zs.length + padN p.zs.length := by
  unfold pmB
  simp [bytesB_len]
  omega
theorem pmB_four (p : Pm) : (pmB p).length % 4 = 0 := by
  rw [pmB_len]
  unfold padN
  omega
theorem pmsB_four (ps : List Pm) : (pmsB ps).length % 4 = 0 := by
  induction ps with
  | nil => rfl
  | cons p ps ih =>
    have := pmB_four p
    unfold pmsB at ih ⊢
    rw [List.flatMap_cons, List.length_append]
    omega
theorem pmsB_le {M : Nat} (ps : List Pm) (h : ∀ p ∈ ps, p.zs.length ≤ M) : (pmsB ps).length ≤ ps.length * (M + 7) := by
  induction ps with
  | nil => simp [pmsB]
  | cons p ps ih =>
    have h1 := ih (fun q hq => h q (List.mem_cons_of_mem _ hq))
    have h2 := h p List.mem_cons_self
    have h3 := padN_lt p.zs.length
    unfold pmsB at h1 ⊢
    rw [List.flatMap_cons, List.length_append, pmB_len, List.length_cons, Nat.add_mul]
    omega
end Go.Proofs.Ytjaheelgcjafcaa
namespace Go.Proofs.Ytjaheelgcjafcaa
open Go.RowKit
def pmV (p : Pm) : List Nat := bytesB p.k 2 ++ (bytesB (4 + p.zs.length) 2 ++ p.zs)
/-- Parameters, without what pads the last one. -/
def pmsV (ps : List Pm) : List Nat := match ps.getLast? with
  | none => []
  | some p => pmsB ps.dropLast ++ pmV p
theorem psz_sum (ps : List Pm) : (pszP (ps.map fun p => p.zs.length)).1 + (pszP (ps.map fun p => p.zs.length)).2 = (pmsB ps).length := by
  have key : ∀ n (ps : List Pm), ps.length = n → (pszP (ps.map fun p => p.zs.length)).1 + (pszP (ps.map fun p => p.zs.length)).2 = (pmsB ps).length := by
    intro n
    induction n with
    | zero =>
      intro ps h
      have : ps = [] := List.eq_nil_of_length_eq_zero h
      subst this
      rfl
    | succ n ih =>
      intro ps h
      rcases List.eq_nil_or_concat ps with e | ⟨qs, p, e⟩
      · subst e; cases h
      · rw [List.concat_eq_append] at e
        subst e
        have h1 := ih qs (by simpa using h)
        rw [List.map_append, List.map_cons, List.map_nil, pszP_snoc]
        unfold pmsB at h1 ⊢
        rw [List.flatMap_append, List.length_append]
        simp only [List.flatMap_cons, List.flatMap_nil, List.append_nil]
        rw [pmB_len]
        omega
  exact key _ ps rfl
theorem pmsV_len (ps : List Pm) : (pmsV ps).length = psz (ps.map fun p => p.zs.length) := by
  rcases List.eq_nil_or_concat ps with e | ⟨qs, p, e⟩
  · subst e; rfl
  · rw [List.concat_eq_append] at e
    subst e
    have h1 := psz_sum qs
    unfold psz
    rw [List.map_append, List.map_cons, List.map_nil, pszP_snoc]
    unfold pmsV
    simp only [List.getLast?_append, List.getLast?_singleton, Option.some_or, List.dropLast_concat]
    unfold pmV
    simp [bytesB_len]
    omega
theorem pms_split (ps : List Pm) : pmsB ps = pmsV ps ++ List.replicate (padN (pmsV ps).length) 0 := by
  rcases List.eq_nil_or_concat ps with e | ⟨qs, p, e⟩
  · subst e; rfl
  · rw [List.concat_eq_append] at e
    subst e
    have h4 := pmsB_four qs
    have hv : pmsV (qs ++ [p]) = pmsB qs ++ pmV p := by
      unfold pmsV
      simp only [List.getLast?_append, List.getLast?_singleton, Option.some_or, List.dropLast_concat]
    have hl : padN (pmsB qs ++ pmV p).length = padN p.zs.length := by
      rw [List.length_append]
      unfold pmV
      simp only [List.length_append, bytesB_len]
      unfold padN
      omega
    rw [hv, hl]
    unfold pmsB pmV
    rw [List.flatMap_append]
    simp only [List.flatMap_cons, List.flatMap_nil, List.append_nil]
    unfold pmB
    simp only [List.append_assoc]
end Go.Proofs.Ytjaheelgcjafcaa
namespace Go.Proofs.Ytjaheelgcjafcaa
open Go.RowKit
section
variable {W0 : World} {x : Nat} {old : Value} {d j : Nat} {S1 : World → Prop} {FF : Nat → Nat → World → Prop} {θ : Nat × Nat × Nat} {l : Nat → Bool} {V : World}
end
def sackB (tsn room : Nat) (bs : List (Nat × Nat)) (ds : List Nat) : List Nat := bytesB tsn 4 ++ (bytesB room 4 ++ (bytesB bs.length 2 ++ (bytesB ds.length 2 ++ (bksB bs ++ dusB ds))))
end Go.Proofs.Ytjaheelgcjafcaa
namespace Go.Proofs.Ytjaheelgcjafcaa
open Go.RowKit
/-- A chunk with all that it holds. -/
structure CD where
  kind : Nat
  flags : Nat
  tsn : Nat
  stream : Nat
  ssn : Nat
  ppid : Nat
  tag : Nat
  room : Nat
  outs : Nat
  ins : Nat
  bs : List (Nat × Nat)
  ds : List Nat
  ps : List Pm
  xs : List Nat
end Go.Proofs.Ytjaheelgcjafcaa
namespace Go.Proofs.Ytjaheelgcjafcaa
open Go.RowKit
def strOf (zs : List Nat) : ByteArray := ⟨(zs.map UInt8.ofNat).toArray⟩
theorem conv_str {w : World} {a : Option Addr} {n c : Nat} {zs : List Nat} (hs : Sl w a n c zs) : (convert 31 9 (.slice a n c)).run Try.prog w = .ok (.string (strOf zs)) w := by
  obtain ⟨hl, hcap, hroom, hsm, hnz, hb, hat⟩ := hs
  cases a with
  | none =>
    obtain rfl := hnz rfl
    obtain rfl : n = 0 := by omega
    obtain rfl : zs = [] := List.eq_nil_of_length_eq_zero hl
    rw [run_convert_bytes_string w 31 9 5 none 0 0 Try.underlying31 Try.underlying5 Try.underlying9]
    rfl
  | some p =>
    have hlen : (zs.map UInt8.ofNat).length = n := by simp [hl]
    have := run_convert_bytes_back (P := Try.prog) w 31 9 5 p c (zs.map UInt8.ofNat) Try.underlying31 Try.underlying5 Try.underlying9 (fun j hj => by
      rw [hlen] at hj
      rcases hat with h0 | ⟨b, off, hp, _, hcell⟩
      · omega
      · injection hp with hp
        subst hp
        have ea : (⟨b, off, none⟩ : Addr).add j = ⟨b, off + j, none⟩ := by
          unfold Addr.add
          split
          · subst_vars; rfl
          · rfl
        have hbj := hb j
        have e2 : zs[j]'(by omega) = zs.getD j 0 := by simp [List.getD_eq_getElem?_getD, show j < zs.length from by omega]
        rw [ea, hcell j hj, List.getElem_map, e2]
        generalize zs.getD j 0 = q at hbj
        have e3 : (UInt8.ofNat q).toNat = q := by rw [UInt8.toNat_ofNat']; omega
        rw [e3])
    rw [hlen] at this
    exact this
theorem strOf_inj {zs ys : List Nat} (hz : ∀ i, zs.getD i 0 < 256) (hy : ∀ i, ys.getD i 0 < 256) (h : strOf zs = strOf ys) : zs = ys := by
  have h1 : zs.map UInt8.ofNat = ys.map UInt8.ofNat := by
    unfold strOf at h
    injection h with h
    simpa using congrArg Array.toList h
  have hl : zs.length = ys.length := by simpa using congrArg List.length h1
  apply List.ext_getElem hl
  intro i h2 h3
  have h4 : (zs.map UInt8.ofNat)[i]'(by simpa using h2) = (ys.map UInt8.ofNat)[i]'(by simpa using h3) := by simp only [h1]
  rw [List.getElem_map, List.getElem_map] at h4
  have a1 := hz i
  have a2 := hy i
  simp [List.getD_eq_getElem?_getD, h2] at a1
  simp [List.getD_eq_getElem?_getD, h3] at a2
  have h5 := congrArg UInt8.toNat h4
  simpa [UInt8.toNat_ofNat', Nat.mod_eq_of_lt a1, Nat.mod_eq_of_lt a2] using h5
end Go.Proofs.Ytjaheelgcjafcaa
namespace Go.Proofs.Ytjaheelgcjafcaa
open Go.RowKit
theorem cb_xor (r s x y k : Nat) : cb (r ^^^ s) (x ^^^ y) k = cb r x k ^^^ cb s y k := by
  unfold cb
  have h1 : (r ^^^ s) / 2 = (r / 2) ^^^ (s / 2) := Nat.xor_div_two
  have h2 : (x ^^^ y) / 2 ^ k = (x / 2 ^ k) ^^^ (y / 2 ^ k) := Nat.xor_div_two_pow
  rw [h1, h2]
  generalize x / 2 ^ k = x'
  generalize y / 2 ^ k = y'
  generalize r / 2 = r2
  generalize s / 2 = s2
  have e : (r ^^^ s ^^^ (x' ^^^ y')) % 2 = ((r ^^^ x') % 2 + (s ^^^ y') % 2) % 2 := by
    have a1 := xor_two r s
    have a2 := xor_two x' y'
    rw [xor_two, xor_two r x', xor_two s y']; omega
  rw [e]
  have hp := Nat.mod_lt (r ^^^ x') (show 0 < 2 by omega)
  have hq := Nat.mod_lt (s ^^^ y') (show 0 < 2 by omega)
  generalize (r ^^^ x') % 2 = p at *
  generalize (s ^^^ y') % 2 = q at *
  have e2 : 2197175160 * ((p + q) % 2) = (2197175160 * p) ^^^ (2197175160 * q) := by
    rcases (show p = 0 ∨ p = 1 by omega) with rfl | rfl <;> rcases (show q = 0 ∨ q = 1 by omega) with rfl | rfl <;> decide
  rw [e2]
  generalize 2197175160 * p = P
  generalize 2197175160 * q = Q
  ac_rfl
theorem cbits_xor (r s x y k : Nat) : cbits (r ^^^ s) (x ^^^ y) k = cbits r x k ^^^ cbits s y k := by
  induction k with
  | zero => rfl
  | succ k ih => show cb (cbits (r ^^^ s) (x ^^^ y) k) (x ^^^ y) k = _; rw [ih, cb_xor]; rfl
def xorL : List Nat → List Nat → List Nat
  | x :: xs, y :: ys => (x ^^^ y) :: xorL xs ys
  | _, _ => []
theorem reg_xor (xs : List Nat) : ∀ (ys : List Nat) (r s : Nat), xs.length = ys.length → crcReg (r ^^^ s) (xorL xs ys) = crcReg r xs ^^^ crcReg s ys := by
  induction xs with
  | nil => intro ys r s h; cases ys with
    | nil => rfl
    | cons y ys => simp at h
  | cons x xs ih => intro ys r s h; cases ys with
    | nil => simp at h
    | cons y ys =>
      show crcReg (cbyte (r ^^^ s) (x ^^^ y)) (xorL xs ys) = crcReg (cbyte r x) xs ^^^ crcReg (cbyte s y) ys
      rw [show cbyte (r ^^^ s) (x ^^^ y) = cbyte r x ^^^ cbyte s y from cbits_xor r s x y 8]
      exact ih ys _ _ (by simpa using h)
theorem xorL_len (xs : List Nat) : ∀ ys, xs.length = ys.length → (xorL xs ys).length = xs.length := by
  induction xs with
  | nil => intro ys h; rfl
  | cons x xs ih => intro ys h; cases ys with
    | nil => simp at h
    | cons y ys => simp [xorL, ih ys (by simpa using h)]
theorem xorL_zero (xs : List Nat) : xorL xs (List.replicate xs.length 0) = xs := by
  induction xs with
  | nil => rfl
  | cons x xs ih => simp [xorL, List.replicate_succ, ih]
theorem xorL_snoc (xs : List Nat) : ∀ ys x y, xs.length = ys.length → xorL (xs ++ [x]) (ys ++ [y]) = xorL xs ys ++ [x ^^^ y] := by
  induction xs with
  | nil => intro ys x y h; cases ys with
    | nil => rfl
    | cons y ys => simp at h
  | cons z xs ih => intro ys x y h; cases ys with
    | nil => simp at h
    | cons y' ys => simp [xorL, ih ys x y (by simpa using h)]
theorem crc_xor (xs ys : List Nat) (h : xs.length = ys.length) : crc (xorL xs ys) = crc xs ^^^ crc ys ^^^ crc (List.replicate xs.length 0) := by
  have h1 : crcReg 4294967295 (xorL xs ys) = crcReg 4294967295 xs ^^^ crcReg 4294967295 ys ^^^ crcReg 4294967295 (List.replicate xs.length 0) := by
    have e1 := reg_xor xs ys 4294967295 4294967295 h
    have e2 := reg_xor (xorL xs ys) (List.replicate xs.length 0) (4294967295 ^^^ 4294967295) 4294967295 (by simp [xorL_len xs ys h])
    rw [show xorL (xorL xs ys) (List.replicate xs.length 0) = xorL xs ys from by
      have := xorL_zero (xorL xs ys); rw [xorL_len xs ys h] at this; exact this] at e2
    rw [e1] at e2
    rw [← e2]
    rfl
  have b1 := crcReg_lt xs 4294967295 (by omega)
  have b2 := crcReg_lt ys 4294967295 (by omega)
  have b3 := crcReg_lt (List.replicate xs.length 0) 4294967295 (by omega)
  have b4 := crcReg_lt (xorL xs ys) 4294967295 (by omega)
  unfold crc
  rw [← not32_nat _ b1, ← not32_nat _ b2, ← not32_nat _ b3, ← not32_nat _ b4, h1]
  generalize crcReg 4294967295 xs = p
  generalize crcReg 4294967295 ys = q
  generalize crcReg 4294967295 (List.replicate xs.length 0) = r
  have : 4294967295 ^^^ p ^^^ (4294967295 ^^^ q) ^^^ (4294967295 ^^^ r) = (4294967295 ^^^ 4294967295) ^^^ (4294967295 ^^^ (p ^^^ q ^^^ r)) := by ac_rfl
  rw [this, Nat.xor_self, Nat.zero_xor]
theorem xor_u8 (x y : Nat) (hx : x < 256) (hy : y < 256) : x ^^^ y < 256 := Nat.xor_lt_two_pow (n := 8) hx hy
/-- One bit back: where the register's highest bit is 0, none went out. -/
theorem cb_back (r z k q : Nat) (hr : r < 4294967296) (h : cb r z k = q) (hq : q < 2147483648) : r = 2 * q + z / 2 ^ k % 2 := by
  unfold cb at h
  have hx := xor_two r (z / 2 ^ k)
  have hb : (r ^^^ z / 2 ^ k) % 2 < 2 := Nat.mod_lt _ (by omega)
  generalize z / 2 ^ k = y at *
  rcases (show (r ^^^ y) % 2 = 0 ∨ (r ^^^ y) % 2 = 1 by omega) with h0 | h0
  · rw [h0, Nat.mul_zero, Nat.xor_zero] at h
    omega
  · exfalso
    rw [h0, Nat.mul_one] at h
    have hd : (r / 2 ^^^ 2197175160) / 2147483648 = (r / 2 / 2147483648) ^^^ (2197175160 / 2147483648) := Nat.xor_div_two_pow (n := 31)
    rw [show r / 2 / 2147483648 = 0 from by omega, show 2197175160 / 2147483648 = 1 from rfl, h] at hd
    simp at hd
    omega
theorem cbyte_back (d z q : Nat) (hd : d < 4294967296) (hz : z < 256) (h : cbyte d z = q) (hq : q < 16777216) : d = 256 * q + z := by
  have l := fun k => cbits_lt d z k hd
  have s8 := cb_back (cbits d z 7) z 7 q (l 7) h (by omega)
  have s7 := cb_back (cbits d z 6) z 6 (cbits d z 7) (l 6) rfl (by omega)
  have s6 := cb_back (cbits d z 5) z 5 (cbits d z 6) (l 5) rfl (by omega)
  have s5 := cb_back (cbits d z 4) z 4 (cbits d z 5) (l 4) rfl (by omega)
  have s4 := cb_back (cbits d z 3) z 3 (cbits d z 4) (l 3) rfl (by omega)
  have s3 := cb_back (cbits d z 2) z 2 (cbits d z 3) (l 2) rfl (by omega)
  have s2 := cb_back (cbits d z 1) z 1 (cbits d z 2) (l 1) rfl (by omega)
  have s1 := cb_back d z 0 (cbits d z 1) hd rfl (by omega)
  clear h l
  simp only [show 2 ^ 7 = 128 from rfl, show 2 ^ 6 = 64 from rfl, show 2 ^ 5 = 32 from rfl, show 2 ^ 4 = 16 from rfl, show 2 ^ 3 = 8 from rfl, show 2 ^ 2 = 4 from rfl, show 2 ^ 1 = 2 from rfl, show 2 ^ 0 = 1 from rfl] at *
  omega
theorem reg_zeros (n : Nat) : ∀ d, d < 4294967296 → crcReg d (List.replicate n 0) = 0 → d = 0 := by
  induction n with
  | zero => intro d _ h; exact h
  | succ n ih =>
    intro d hd h
    have h2 := ih (cbyte d 0) (cbyte_lt d 0 hd) (by simpa [List.replicate_succ, crcReg] using h)
    have := cbyte_back d 0 0 hd (by omega) h2 (by omega)
    omega
theorem cbyte_zero : cbyte 0 0 = 0 := by decide
theorem reg_zero_zeros (n : Nat) : crcReg 0 (List.replicate n 0) = 0 := by
  induction n with
  | zero => rfl
  | succ n ih =>
    show crcReg (cbyte 0 0) (List.replicate n 0) = 0
    rw [cbyte_zero]; exact ih
theorem reg_append (r : Nat) (xs ys : List Nat) : crcReg r (xs ++ ys) = crcReg (crcReg r xs) ys := by simp [crcReg, List.foldl_append]
/-- Bytes as a number, the lowest first. -/
def leN : List Nat → Nat
  | [] => 0
  | z :: zs => z + 256 * leN zs
theorem leN_lt (zs : List Nat) (hb : ∀ z ∈ zs, z < 256) : leN zs < 256 ^ zs.length := by
  induction zs with
  | nil => simp [leN]
  | cons z zs ih =>
    have h1 := ih (fun x hx => hb x (List.mem_cons_of_mem _ hx))
    have h2 := hb z (List.mem_cons_self ..)
    show z + 256 * leN zs < 256 ^ (zs.length + 1)
    rw [Nat.pow_succ]
    omega
theorem reg_burst (zs : List Nat) : zs.length ≤ 4 → (∀ z ∈ zs, z < 256) → ∀ d, d < 4294967296 → crcReg d zs = 0 → d = leN zs := by
  induction zs with
  | nil => intro _ _ d _ h; exact h
  | cons z zs ih =>
    intro hl hb d hd h
    have hb' : ∀ x ∈ zs, x < 256 := fun x hx => hb x (List.mem_cons_of_mem _ hx)
    have hl' : zs.length ≤ 3 := by simp at hl; omega
    have h2 := ih (by omega) hb' (cbyte d z) (cbyte_lt d z hd) h
    have h3 := leN_lt zs hb'
    have h4 : 256 ^ zs.length ≤ 256 ^ 3 := Nat.pow_le_pow_right (by omega) hl'
    have := cbyte_back d z (leN zs) hd (hb z (List.mem_cons_self ..)) h2 (by omega)
    show d = z + 256 * leN zs
    omega
theorem leN_zero (zs : List Nat) : leN zs = 0 → ∀ z ∈ zs, z = 0 := by
  induction zs with
  | nil => intro _ z hz; simp at hz
  | cons x zs ih =>
    intro h z hz
    have h' : x + 256 * leN zs = 0 := h
    rcases List.mem_cons.1 hz with rfl | hz
    · omega
    · exact ih (by omega) z hz
/-- Two rows of bytes of one length that differ in up to four neighbouring bytes, and have one sum, are the same there. -/
theorem burst (p s : Nat) (zs : List Nat) (hl : zs.length ≤ 4) (hb : ∀ z ∈ zs, z < 256) (h : crcReg 0 (List.replicate p 0 ++ (zs ++ List.replicate s 0)) = 0) : ∀ z ∈ zs, z = 0 := by
  rw [reg_append, reg_zero_zeros, reg_append] at h
  have h2 := reg_zeros s _ (crcReg_lt zs 0 (by omega)) h
  exact leN_zero zs (reg_burst zs hl hb 0 (by omega) h2).symm
theorem crc_same (xs ys : List Nat) (hl : xs.length = ys.length) (h : crc xs = crc ys) : crcReg 0 (xorL xs ys) = 0 := by
  have b1 := crcReg_lt xs 4294967295 (by omega)
  have b2 := crcReg_lt ys 4294967295 (by omega)
  have e : crcReg 4294967295 xs = crcReg 4294967295 ys := by unfold crc at h; omega
  have := reg_xor xs ys 4294967295 4294967295 hl
  rw [Nat.xor_self, e, Nat.xor_self] at this
  exact this
end Go.Proofs.Ytjaheelgcjafcaa
