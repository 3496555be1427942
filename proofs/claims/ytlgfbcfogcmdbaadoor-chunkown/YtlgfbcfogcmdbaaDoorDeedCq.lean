/- A row of api.Chunk, as it lies in a world. -/
import Derived.Test.YtlgfbcfogcmdbaaDoorProg
import Derived.Test.YtlgfbcfogcmdbaaDoorBase
import Derived.Deep.Strs
import Derived.RowKit
import Derived.ChangeSlices
import Derived.SizedLaws
import Derived.ProofKit
import Derived.OpenShut
import Derived.ChangeArms
import Derived.WideShapes
import Derived.Test.YtlgfbcfogcmdbaaDoorDeedBk
import Derived.Test.YtlgfbcfogcmdbaaDoorDeedPq
namespace Go.Proofs.YtlgfbcfogcmdbaaDoor
open Go.RowKit Go.ChangeShapes Go.WideShapes Go.ChangeAt
structure ChQ where
  k : Nat
  f : Nat
  t : Nat
  st : Nat
  ss : Nat
  pp : Nat
  tg : Nat
  rm : Nat
  os : Nat
  is : Nat
  bA : Option Addr
  bN : Nat
  bC : Nat
  bD : List (Nat × Nat)
  dA : Option Addr
  dN : Nat
  dC : Nat
  dD : List Nat
  pA : Option Addr
  pN : Nat
  pC : Nat
  pD : List PqD
  xA : Option Addr
  xN : Nat
  xC : Nat
  xZ : List Nat
instance : Inhabited ChQ := ⟨⟨0, 0, 0, 0, 0, 0, 0, 0, 0, 0, none, 0, 0, [], none, 0, 0, [], none, 0, 0, [], none, 0, 0, []⟩⟩
def ChQ.vals (x : ChQ) : List Value := [.int .u8 (x.k : Nat), .int .u8 (x.f : Nat), .int .u32 (x.t : Nat), .int .u16 (x.st : Nat), .int .u16 (x.ss : Nat), .int .u32 (x.pp : Nat), .int .u32 (x.tg : Nat), .int .u32 (x.rm : Nat), .int .u16 (x.os : Nat), .int .u16 (x.is : Nat), .slice x.bA x.bN x.bC, .slice x.dA x.dN x.dC, .slice x.pA x.pN x.pC, .slice x.xA x.xN x.xC]
def ChQ.Wf (w : World) (x : ChQ) : Prop := x.k < 256 ∧ x.f < 256 ∧ x.t < 4294967296 ∧ x.st < 65536 ∧ x.ss < 65536 ∧ x.pp < 4294967296 ∧ x.tg < 4294967296 ∧ x.rm < 4294967296 ∧ x.os < 65536 ∧ x.is < 65536 ∧ (BkR w x.bA x.bN x.bC x.bD) ∧ (SlDu w x.dA x.dN x.dC x.dD) ∧ (SlPq w x.pA x.pN x.pC x.pD) ∧ (Sl w x.xA x.xN x.xC x.xZ ∧ x.xN ≤ 140737488351232 ∧ x.dN ≤ 35184372088832)
structure SlCq (w : World) (a : Option Addr) (n c : Nat) (dd : List ChQ) : Prop where
  len : dd.length = n
  cap : n ≤ c
  less : n ≤ 1099511627776
  at_ : n = 0 ∨ ∃ b off, a = some ⟨b, off, none⟩ ∧ b < w.heap.size ∧ ∀ i x, dd[i]? = some x → ∀ j v, x.vals[j]? = some v → w.cell? ⟨b, off + i * 14 + j, none⟩ = some v
  wf : ∀ x ∈ dd, x.Wf w
theorem SlCq.small {w : World} {a : Option Addr} {n c : Nat} {dd : List ChQ} (h : SlCq w a n c dd) : n ≤ 281474976710656 := Nat.le_trans h.less (by decide)
theorem SlCq.below {w w' : World} {a : Option Addr} {n c : Nat} {dd : List ChQ} (h : SlCq w a n c dd) (hb : Below w.heap.size w w') : SlCq w' a n c dd := by
  refine ⟨h.len, h.cap, h.less, ?_, fun x hx => ?_⟩
  · rcases h.at_ with h0 | ⟨b, off, rfl, hlt, hc⟩
    · exact .inl h0
    · exact .inr ⟨b, off, rfl, Nat.lt_of_lt_of_le hlt hb.size, fun i x hx j v hv => (hb.cell (p := ⟨b, off + i * 14 + j, none⟩) hlt).trans (hc i x hx j v hv)⟩
  · have hh := h.wf x hx
    unfold ChQ.Wf at hh ⊢
    obtain ⟨h0, h1, h2, h3, h4, h5, h6, h7, h8, h9, h10, h11, h12, h13⟩ := hh
    exact ⟨h0, h1, h2, h3, h4, h5, h6, h7, h8, h9, h10.below hb, h11.below hb, h12.below hb, ⟨h13.1.below hb, h13.2⟩⟩
theorem SlCq.wAll_mem {H : Type} {P : Program} {e : TypeId} : ∀ {ds : List (DataW H)} {d : DataW H}, d ∈ ds → ∀ n ∈ d.weights P e, n ∈ DataW.weightsAll P e ds
  | x :: ds, d, hd, n, hn => by
    unfold DataW.weightsAll
    rcases List.mem_cons.1 hd with rfl | h
    · exact List.mem_append_left _ hn
    · exact List.mem_append_right _ (SlCq.wAll_mem h n hn)
theorem SlCq.cells_uint8 : Tryd.prog.cellsOf 5 = 1 := by kernel_rfl
theorem SlCq.cells_uint32 : Tryd.prog.cellsOf 23 = 1 := by kernel_rfl
theorem SlCq.cells_uint16 : Tryd.prog.cellsOf 22 = 1 := by kernel_rfl
theorem SlCq.cells____2_uint16 : Tryd.prog.cellsOf 27 = 1 := by kernel_rfl
theorem SlCq.cells___uint32 : Tryd.prog.cellsOf 28 = 1 := by kernel_rfl
theorem SlCq.cells___api_Param : Tryd.prog.cellsOf 29 = 1 := by kernel_rfl
theorem SlCq.cells___uint8 : Tryd.prog.cellsOf 30 = 1 := by kernel_rfl
theorem SlCq.bytes_u8 : Tryd.prog.bytesOf 5 = 1 := by kernel_rfl
theorem SlCq.open_bytes {H : Type} {enc : TypeId × Value → H} {w : World} {base : Nat} {held : Bool} {fuel : Nat} {v : Value} {y : DataW H × List MemPlace}
    (h : DataW.trod enc Tryd.prog w base (fun _ => true) held fuel 30 [v] = some y) (hw : ∀ n ∈ y.1.weights Tryd.prog 30, n ≤ reachBytes) : ∃ a n c zs, v = .slice a n c ∧ Sl w a n c zs ∧ c ≤ 140737488351232 := by
  rcases open_ints Tryd.underlying30 Tryd.underlying5 (by kernel_rfl) h with ⟨hcs, _⟩ | ⟨x, l, c, zs, hcs, _, hl, hm, hz, hx, hcell, hwz⟩
  · simp at hcs
    exact ⟨none, 0, 0, [], hcs, SlK.nil _ _ _ (by omega), by omega⟩
  · simp at hcs
    have hz' : zs.length = c := by simpa using hz
    have hb : (lits (H := H) .u8 (zs.take l)).length + (lits (H := H) .u8 (zs.drop l)).length ≤ reachBytes := by
      have := hw (((lits (H := H) .u8 (zs.take l)).length + (lits (H := H) .u8 (zs.drop l)).length) * Tryd.prog.bytesOf 5) (by
        rw [hx]
        unfold DataW.weights
        rw [Tryd.underlying30]
        simp)
      rwa [SlCq.bytes_u8, Nat.mul_one] at this
    simp only [lits, List.length_map, List.length_take, List.length_drop, reachBytes] at hb
    exact ⟨_, _, _, _, hcs, SlK.of_ints (by omega) (fun z hz => by simp [Lit.wf, IntKind.min, IntKind.max, IntKind.signed, IntKind.bits] at hz; omega) hl hm hz' (by omega) hcell hwz, by omega⟩
theorem SlCq.any_cells____2_uint16 {H : Type} {enc : TypeId × Value → H} {w : World} {base : Nat} {held : Bool} {fuel : Nat} {v : Value} {y : DataW H × List MemPlace}
    (h : DataW.trod enc Tryd.prog w base (fun _ => true) held fuel 27 [v] = some y) (hw : ∀ n ∈ y.1.weights Tryd.prog 27, n ≤ reachBytes) : ∃ a n c, v = .slice a n c ∧ n ≤ 281474976710656 := by
  have hbe : Tryd.prog.bytesOf 71 = 4 := by kernel_rfl
  rcases Go.Deep.open_slice Tryd.underlying27 h with ⟨hcs, _⟩ | ⟨x, l, k, m, fn, D, Pl, hcs, hb, hl, hm, hmm, hx, hc⟩
  · simp at hcs
    exact ⟨none, 0, 0, hcs, by omega⟩
  · simp at hcs
    subst hx
    have hmc : m = k := by simpa using hmm
    have hsz : m * 4 ≤ reachBytes := by
      have := hw ((((List.range l).map D).length + ((List.range (m - l)).map fun j => D (l + j)).length) * Tryd.prog.bytesOf 71) (by
        unfold DataW.weights
        rw [Tryd.underlying27]
        simp)
      rw [hbe] at this
      simp at this
      omega
    simp only [reachBytes] at hsz
    exact ⟨_, l, k, hcs, by omega⟩
theorem SlCq.any_cells___api_Param {H : Type} {enc : TypeId × Value → H} {w : World} {base : Nat} {held : Bool} {fuel : Nat} {v : Value} {y : DataW H × List MemPlace}
    (h : DataW.trod enc Tryd.prog w base (fun _ => true) held fuel 29 [v] = some y) (hw : ∀ n ∈ y.1.weights Tryd.prog 29, n ≤ reachBytes) : ∃ a n c, v = .slice a n c ∧ n ≤ 281474976710656 := by
  have hbe : Tryd.prog.bytesOf 34 = 32 := by kernel_rfl
  rcases Go.Deep.open_slice Tryd.underlying29 h with ⟨hcs, _⟩ | ⟨x, l, k, m, fn, D, Pl, hcs, hb, hl, hm, hmm, hx, hc⟩
  · simp at hcs
    exact ⟨none, 0, 0, hcs, by omega⟩
  · simp at hcs
    subst hx
    have hmc : m = k := by simpa using hmm
    have hsz : m * 32 ≤ reachBytes := by
      have := hw ((((List.range l).map D).length + ((List.range (m - l)).map fun j => D (l + j)).length) * Tryd.prog.bytesOf 34) (by
        unfold DataW.weights
        rw [Tryd.underlying29]
        simp)
      rw [hbe] at this
      simp at this
      omega
    simp only [reachBytes] at hsz
    exact ⟨_, l, k, hcs, by omega⟩
theorem SlCq.any_cells___uint32 {H : Type} {enc : TypeId × Value → H} {w : World} {base : Nat} {held : Bool} {fuel : Nat} {v : Value} {y : DataW H × List MemPlace}
    (h : DataW.trod enc Tryd.prog w base (fun _ => true) held fuel 28 [v] = some y) (hw : ∀ n ∈ y.1.weights Tryd.prog 28, n ≤ reachBytes) : ∃ a n c, v = .slice a n c ∧ n ≤ 35184372088832 := by
  have hbe : Tryd.prog.bytesOf 23 = 4 := by kernel_rfl
  rcases Go.Deep.open_slice Tryd.underlying28 h with ⟨hcs, _⟩ | ⟨x, l, k, m, fn, D, Pl, hcs, hb, hl, hm, hmm, hx, hc⟩
  · simp at hcs
    exact ⟨none, 0, 0, hcs, by omega⟩
  · simp at hcs
    subst hx
    have hmc : m = k := by simpa using hmm
    have hsz : m * 4 ≤ reachBytes := by
      have := hw ((((List.range l).map D).length + ((List.range (m - l)).map fun j => D (l + j)).length) * Tryd.prog.bytesOf 23) (by
        unfold DataW.weights
        rw [Tryd.underlying28]
        simp)
      rw [hbe] at this
      simp at this
      omega
    simp only [reachBytes] at hsz
    exact ⟨_, l, k, hcs, by omega⟩
theorem SlCq.open_all_fields : ∃ f0 f1 f2 f3 f4 f5 f6 f7 f8 f9 f10 f11 f12 f13 : Field, Tryd.prog.underlying 32 = some (.struct #[f0, f1, f2, f3, f4, f5, f6, f7, f8, f9, f10, f11, f12, f13]) ∧ f0.offset = 0 ∧ f1.offset = 1 ∧ f2.offset = 2 ∧ f3.offset = 3 ∧ f4.offset = 4 ∧ f5.offset = 5 ∧ f6.offset = 6 ∧ f7.offset = 7 ∧ f8.offset = 8 ∧ f9.offset = 9 ∧ f10.offset = 10 ∧ f11.offset = 11 ∧ f12.offset = 12 ∧ f13.offset = 13 ∧ f0.type = 5 ∧ f1.type = 5 ∧ f2.type = 23 ∧ f3.type = 22 ∧ f4.type = 22 ∧ f5.type = 23 ∧ f6.type = 23 ∧ f7.type = 23 ∧ f8.type = 22 ∧ f9.type = 22 ∧ f10.type = 27 ∧ f11.type = 28 ∧ f12.type = 29 ∧ f13.type = 30 := ⟨_, _, _, _, _, _, _, _, _, _, _, _, _, _, Tryd.underlying32, rfl, rfl, rfl, rfl, rfl, rfl, rfl, rfl, rfl, rfl, rfl, rfl, rfl, rfl, rfl, rfl, rfl, rfl, rfl, rfl, rfl, rfl, rfl, rfl, rfl, rfl, rfl, rfl⟩
set_option linter.unusedVariables false in
set_option maxRecDepth 100000 in
theorem SlCq.open_all {H : Type} {enc : TypeId × Value → H} {w : World} {base : Nat} {held : Bool} {fuel : Nat} {cl : List Value} {y : DataW H × List MemPlace} (hl : cl.length = 14)
    (h : DataW.trod enc Tryd.prog w base (fun _ => true) held fuel 32 cl = some y) (hw : ∀ n ∈ y.1.weights Tryd.prog 32, n ≤ reachBytes) :
    ∃ (k : Nat) (f : Nat) (t : Nat) (st : Nat) (ss : Nat) (pp : Nat) (tg : Nat) (rm : Nat) (os : Nat) (is : Nat) (bA : Option Addr) (bN bC : Nat) (bD : List (Nat × Nat)) (dA : Option Addr) (dN dC : Nat) (dD : List Nat) (pA : Option Addr) (pN pC : Nat) (pD : List PqD) (xA : Option Addr) (xN xC : Nat) (xZ : List Nat), cl = [.int .u8 (k : Nat), .int .u8 (f : Nat), .int .u32 (t : Nat), .int .u16 (st : Nat), .int .u16 (ss : Nat), .int .u32 (pp : Nat), .int .u32 (tg : Nat), .int .u32 (rm : Nat), .int .u16 (os : Nat), .int .u16 (is : Nat), .slice bA bN bC, .slice dA dN dC, .slice pA pN pC, .slice xA xN xC] ∧ k < 256 ∧ f < 256 ∧ t < 4294967296 ∧ st < 65536 ∧ ss < 65536 ∧ pp < 4294967296 ∧ tg < 4294967296 ∧ rm < 4294967296 ∧ os < 65536 ∧ is < 65536 ∧ (BkR w bA bN bC bD) ∧ (SlDu w dA dN dC dD) ∧ (SlPq w pA pN pC pD) ∧ (Sl w xA xN xC xZ ∧ xC ≤ 140737488351232 ∧ dN ≤ 35184372088832) := by
  obtain ⟨f0, f1, f2, f3, f4, f5, f6, f7, f8, f9, f10, f11, f12, f13, he, o0, o1, o2, o3, o4, o5, o6, o7, o8, o9, o10, o11, o12, o13, t0, t1, t2, t3, t4, t5, t6, t7, t8, t9, t10, t11, t12, t13⟩ := SlCq.open_all_fields
  obtain ⟨xs, m, _, hx, _, hlen, hfs⟩ := DataW.trod_struct he h
  have hlen2 : xs.length = 14 := hlen
  match cl, hl, xs, hlen2 with
  | [v0, v1, v2, v3, v4, v5, v6, v7, v8, v9, v10, v11, v12, v13], _, [y0, y1, y2, y3, y4, y5, y6, y7, y8, y9, y10, y11, y12, y13], _ =>
    have hd := congrArg Prod.fst hx
    simp only [List.map_cons, List.map_nil] at hd
    have g0 := hfs 0 f0 rfl
    simp [o0, t0, SlCq.cells_uint8] at g0
    have g1 := hfs 1 f1 rfl
    simp [o1, t1, SlCq.cells_uint8] at g1
    have g2 := hfs 2 f2 rfl
    simp [o2, t2, SlCq.cells_uint32] at g2
    have g3 := hfs 3 f3 rfl
    simp [o3, t3, SlCq.cells_uint16] at g3
    have g4 := hfs 4 f4 rfl
    simp [o4, t4, SlCq.cells_uint16] at g4
    have g5 := hfs 5 f5 rfl
    simp [o5, t5, SlCq.cells_uint32] at g5
    have g6 := hfs 6 f6 rfl
    simp [o6, t6, SlCq.cells_uint32] at g6
    have g7 := hfs 7 f7 rfl
    simp [o7, t7, SlCq.cells_uint32] at g7
    have g8 := hfs 8 f8 rfl
    simp [o8, t8, SlCq.cells_uint16] at g8
    have g9 := hfs 9 f9 rfl
    simp [o9, t9, SlCq.cells_uint16] at g9
    have g10 := hfs 10 f10 rfl
    simp [o10, t10, SlCq.cells____2_uint16] at g10
    have g11 := hfs 11 f11 rfl
    simp [o11, t11, SlCq.cells___uint32] at g11
    have g12 := hfs 12 f12 rfl
    simp [o12, t12, SlCq.cells___api_Param] at g12
    have g13 := hfs 13 f13 rfl
    simp [o13, t13, SlCq.cells___uint8] at g13
    obtain ⟨kz, e0, _, w0⟩ := DataW.trod_int Tryd.underlying5 g0
    simp at e0
    subst e0
    obtain ⟨k, rfl⟩ : ∃ m : Nat, kz = (m : Int) := ⟨kz.toNat, by have := bounds_u8 w0; omega⟩
    have b0 : k < 256 := by have := bounds_u8 w0; omega
    obtain ⟨fz, e1, _, w1⟩ := DataW.trod_int Tryd.underlying5 g1
    simp at e1
    subst e1
    obtain ⟨f, rfl⟩ : ∃ m : Nat, fz = (m : Int) := ⟨fz.toNat, by have := bounds_u8 w1; omega⟩
    have b1 : f < 256 := by have := bounds_u8 w1; omega
    obtain ⟨tz, e2, _, w2⟩ := DataW.trod_int Tryd.underlying23 g2
    simp at e2
    subst e2
    obtain ⟨t, rfl⟩ : ∃ m : Nat, tz = (m : Int) := ⟨tz.toNat, by have := bounds_u32 w2; omega⟩
    have b2 : t < 4294967296 := by have := bounds_u32 w2; omega
    obtain ⟨stz, e3, _, w3⟩ := DataW.trod_int Tryd.underlying22 g3
    simp at e3
    subst e3
    obtain ⟨st, rfl⟩ : ∃ m : Nat, stz = (m : Int) := ⟨stz.toNat, by have := bounds_u16 w3; omega⟩
    have b3 : st < 65536 := by have := bounds_u16 w3; omega
    obtain ⟨ssz, e4, _, w4⟩ := DataW.trod_int Tryd.underlying22 g4
    simp at e4
    subst e4
    obtain ⟨ss, rfl⟩ : ∃ m : Nat, ssz = (m : Int) := ⟨ssz.toNat, by have := bounds_u16 w4; omega⟩
    have b4 : ss < 65536 := by have := bounds_u16 w4; omega
    obtain ⟨ppz, e5, _, w5⟩ := DataW.trod_int Tryd.underlying23 g5
    simp at e5
    subst e5
    obtain ⟨pp, rfl⟩ : ∃ m : Nat, ppz = (m : Int) := ⟨ppz.toNat, by have := bounds_u32 w5; omega⟩
    have b5 : pp < 4294967296 := by have := bounds_u32 w5; omega
    obtain ⟨tgz, e6, _, w6⟩ := DataW.trod_int Tryd.underlying23 g6
    simp at e6
    subst e6
    obtain ⟨tg, rfl⟩ : ∃ m : Nat, tgz = (m : Int) := ⟨tgz.toNat, by have := bounds_u32 w6; omega⟩
    have b6 : tg < 4294967296 := by have := bounds_u32 w6; omega
    obtain ⟨rmz, e7, _, w7⟩ := DataW.trod_int Tryd.underlying23 g7
    simp at e7
    subst e7
    obtain ⟨rm, rfl⟩ : ∃ m : Nat, rmz = (m : Int) := ⟨rmz.toNat, by have := bounds_u32 w7; omega⟩
    have b7 : rm < 4294967296 := by have := bounds_u32 w7; omega
    obtain ⟨osz, e8, _, w8⟩ := DataW.trod_int Tryd.underlying22 g8
    simp at e8
    subst e8
    obtain ⟨os, rfl⟩ : ∃ m : Nat, osz = (m : Int) := ⟨osz.toNat, by have := bounds_u16 w8; omega⟩
    have b8 : os < 65536 := by have := bounds_u16 w8; omega
    obtain ⟨isz, e9, _, w9⟩ := DataW.trod_int Tryd.underlying22 g9
    simp at e9
    subst e9
    obtain ⟨is, rfl⟩ : ∃ m : Nat, isz = (m : Int) := ⟨isz.toNat, by have := bounds_u16 w9; omega⟩
    have b9 : is < 65536 := by have := bounds_u16 w9; omega
    obtain ⟨bA, bN, bC, rfl, _⟩ := SlCq.any_cells____2_uint16 g10 (fun q hq => hw q (by
      rw [hd]
      unfold DataW.weights
      rw [he]
      exact DataW.weights_mem_each (j := 10) (t := f10.type) (d := y10.1) rfl rfl q (by rw [t10]; exact hq)))
    obtain ⟨bD, b10⟩ := BkR.open g10 (fun q hq => hw q (by
      rw [hd]
      unfold DataW.weights
      rw [he]
      exact DataW.weights_mem_each (j := 10) (t := f10.type) (d := y10.1) rfl rfl q (by rw [t10]; exact hq)))
    obtain ⟨dA, dN, dC, rfl, bdN⟩ := SlCq.any_cells___uint32 g11 (fun q hq => hw q (by
      rw [hd]
      unfold DataW.weights
      rw [he]
      exact DataW.weights_mem_each (j := 11) (t := f11.type) (d := y11.1) rfl rfl q (by rw [t11]; exact hq)))
    obtain ⟨dD, b11⟩ := SlDu.open g11 (fun q hq => hw q (by
      rw [hd]
      unfold DataW.weights
      rw [he]
      exact DataW.weights_mem_each (j := 11) (t := f11.type) (d := y11.1) rfl rfl q (by rw [t11]; exact hq)))
    obtain ⟨pA, pN, pC, rfl, _⟩ := SlCq.any_cells___api_Param g12 (fun q hq => hw q (by
      rw [hd]
      unfold DataW.weights
      rw [he]
      exact DataW.weights_mem_each (j := 12) (t := f12.type) (d := y12.1) rfl rfl q (by rw [t12]; exact hq)))
    obtain ⟨pD, b12⟩ := SlPq.open g12 (fun q hq => hw q (by
      rw [hd]
      unfold DataW.weights
      rw [he]
      exact DataW.weights_mem_each (j := 12) (t := f12.type) (d := y12.1) rfl rfl q (by rw [t12]; exact hq)))
    obtain ⟨xA, xN, xC, xZ, rfl, s13, b13⟩ := SlCq.open_bytes g13 (fun q hq => hw q (by
      rw [hd]
      unfold DataW.weights
      rw [he]
      exact DataW.weights_mem_each (j := 13) (t := f13.type) (d := y13.1) rfl rfl q (by rw [t13]; exact hq)))
    exact ⟨k, f, t, st, ss, pp, tg, rm, os, is, bA, bN, bC, bD, dA, dN, dC, dD, pA, pN, pC, pD, xA, xN, xC, xZ, rfl, b0, b1, b2, b3, b4, b5, b6, b7, b8, b9, b10, b11, b12, ⟨s13, b13, bdN⟩⟩
theorem SlCq.cellsAll : Tryd.prog.cellsOf 32 = 14 := by kernel_rfl
theorem SlCq.bytesAll : Tryd.prog.bytesOf 32 = 128 := by kernel_rfl
theorem SlCq.open {H : Type} {enc : TypeId × Value → H} {w : World} {base : Nat} {held : Bool} {fuel : Nat} {a : Option Addr} {n c : Nat} {y : DataW H × List MemPlace}
    (h : DataW.trod enc Tryd.prog w base (fun _ => true) held fuel 26 [.slice a n c] = some y) (hw : ∀ n ∈ y.1.weights Tryd.prog 26, n ≤ reachBytes) : ∃ dd, SlCq w a n c dd := by
  rcases Go.Deep.open_slice Tryd.underlying26 h with ⟨hcs, _⟩ | ⟨x, l, k, m, fn, D, Pl, hcs, hb, hl, hm, hmm, hx, hc⟩
  · simp at hcs
    obtain ⟨rfl, rfl, rfl⟩ := hcs
    exact ⟨[], rfl, Nat.le_refl _, by omega, .inl rfl, fun x hx => (by cases hx)⟩
  · simp at hcs
    obtain ⟨rfl, rfl, rfl⟩ := hcs
    have hmc : m = c := by simpa using hmm
    subst hmc
    subst hx
    have hsz : m * 128 ≤ reachBytes := by
      have := hw ((((List.range n).map D).length + ((List.range (m - n)).map fun j => D (n + j)).length) * Tryd.prog.bytesOf 32) (by
        unfold DataW.weights
        rw [Tryd.underlying26]
        simp)
      rw [SlCq.bytesAll] at this
      simp at this
      omega
    simp only [reachBytes] at hsz
    rw [SlCq.cellsAll] at hc
    have hwi : ∀ i, i < n → ∀ q ∈ (D i).weights Tryd.prog 32, q ≤ reachBytes := by
      intro i hi q hq
      refine hw q ?_
      unfold DataW.weights
      rw [Tryd.underlying26]
      simp only [List.mem_cons, List.mem_append]
      exact .inr (.inl (SlCq.wAll_mem (List.mem_map.2 ⟨i, List.mem_range.2 hi, rfl⟩) q hq))
    have each : ∀ i, i < n → ∃ q : ChQ, (∀ j v, q.vals[j]? = some v → w.cell? (x.add (i * 14 + j)) = some v) ∧ q.Wf w := by
      intro i hi
      obtain ⟨cs', h1, h2⟩ := hc i (by omega)
      obtain ⟨_, hlen, hcell⟩ := World.cells?_some h1
      obtain ⟨k, f, t, st, ss, pp, tg, rm, os, is, bA, bN, bC, bD, dA, dN, dC, dD, pA, pN, pC, pD, xA, xN, xC, xZ, rfl, Hk, Hf, Ht, Hst, Hss, Hpp, Htg, Hrm, Hos, His, Hb, Hd, Hp, Hx⟩ := SlCq.open_all hlen h2 (hwi i hi)
      refine ⟨⟨k, f, t, st, ss, pp, tg, rm, os, is, bA, bN, bC, bD, dA, dN, dC, dD, pA, pN, pC, pD, xA, xN, xC, xZ⟩, fun j v hv => ?_, ⟨Hk, Hf, Ht, Hst, Hss, Hpp, Htg, Hrm, Hos, His, Hb, Hd, Hp, ⟨Hx.1, Nat.le_trans Hx.1.cap Hx.2.1, Hx.2.2⟩⟩⟩
      have hj : j < 14 := (List.getElem?_eq_some_iff.1 hv).1
      have e := hcell j hj
      rw [Go.Deep.add_add] at e
      rw [e]
      exact hv
    obtain ⟨q, hq⟩ := Go.Deep.choose_lt each
    have hget : ∀ i z, ((List.range n).map q)[i]? = some z → i < n ∧ z = q i := fun i z hz => by
      have hi := (List.getElem?_eq_some_iff.1 hz).1
      simp at hi
      rw [List.getElem?_map, List.getElem?_range hi] at hz
      simp at hz
      exact ⟨hi, hz.symm⟩
    refine ⟨(List.range n).map q, by simp, hl, by omega, ?_, fun z hz => ?_⟩
    · by_cases h0 : n = 0
      · exact .inl h0
      · obtain ⟨b, off, spot⟩ := x
        have hc0 := (hq 0 (by omega)).1 0 _ rfl
        have hspot : spot = none := by simpa [Addr.add] using World.cell?_spot hc0
        subst hspot
        have hlt : b < w.heap.size := by
          have := hc0
          simp only [Addr.add, World.cell?] at this
          rcases Nat.lt_or_ge b w.heap.size with h9 | h9
          · exact h9
          · simp [h9] at this
        refine .inr ⟨b, off, rfl, hlt, fun i z hz j v hv => ?_⟩
        obtain ⟨hi, rfl⟩ := hget i z hz
        have h1 := (hq i hi).1 j v hv
        have ea : ∀ j, (⟨b, off, none⟩ : Addr).add j = ⟨b, off + j, none⟩ := by
          intro j
          unfold Addr.add
          split
          · subst_vars; rfl
          · rfl
        rw [ea] at h1
        rw [Nat.add_assoc]
        exact h1
    · obtain ⟨i, hi⟩ := List.getElem?_of_mem hz
      obtain ⟨hin, rfl⟩ := hget i z hi
      exact (hq i hin).2
set_option maxRecDepth 100000 in
/-- One, by value, as a parameter. -/
theorem SlCq.openV {H : Type} {enc : TypeId × Value → H} {w : World} {b0 base : Nat} {held : Bool} {v : Value} {d : DataW H} {p : List MemPlace}
    (hv : Value.okWide Tryd.prog w .any b0 32 v) (h : DataW.Trod enc Tryd.prog w base (fun _ => true) held 32 v d p) (hw : ∀ n ∈ d.weights Tryd.prog 32, n ≤ reachBytes) : ∃ x : ChQ, v = .agg x.vals.toArray ∧ x.Wf w := by
  obtain ⟨f0, f1, f2, f3, f4, f5, f6, f7, f8, f9, f10, f11, f12, f13, he, _⟩ := SlCq.open_all_fields
  obtain ⟨cs, rfl, hsz⟩ := okWide_struct he hv
  rw [SlCq.cellsAll] at hsz
  obtain ⟨cl⟩ := cs
  obtain ⟨fuel, hf⟩ := h
  have hf2 : DataW.trod enc Tryd.prog w base (fun _ => true) held fuel 32 cl = some (d, p) := hf
  obtain ⟨k, f, t, st, ss, pp, tg, rm, os, is, bA, bN, bC, bD, dA, dN, dC, dD, pA, pN, pC, pD, xA, xN, xC, xZ, rfl, Hk, Hf, Ht, Hst, Hss, Hpp, Htg, Hrm, Hos, His, Hb, Hd, Hp, Hx⟩ := SlCq.open_all hsz hf2 hw
  exact ⟨⟨k, f, t, st, ss, pp, tg, rm, os, is, bA, bN, bC, bD, dA, dN, dC, dD, pA, pN, pC, pD, xA, xN, xC, xZ⟩, rfl, ⟨Hk, Hf, Ht, Hst, Hss, Hpp, Htg, Hrm, Hos, His, Hb, Hd, Hp, ⟨Hx.1, Nat.le_trans Hx.1.cap Hx.2.1, Hx.2.2⟩⟩⟩
end Go.Proofs.YtlgfbcfogcmdbaaDoor
