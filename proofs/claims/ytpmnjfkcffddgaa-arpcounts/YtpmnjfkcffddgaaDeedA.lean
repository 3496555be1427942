/- A row of trunklinelaw09.Deed, as it lies in a world. -/
import Derived.Test.YtpmnjfkcffddgaaProg
import Derived.Test.YtpmnjfkcffddgaaBase
import Derived.Deep.Strs
import Derived.RowKit
import Derived.ChangeSlices
import Derived.SizedLaws
import Derived.ProofKit
import Derived.OpenShut
namespace Go.Proofs.Ytpmnjfkcffddgaa
open Go.RowKit Go.ChangeShapes Go.WideShapes Go.ChangeAt
structure Dd9 where
  op : Int
  to : Nat
  bA : Option Addr
  bN : Nat
  bC : Nat
  bZ : List Nat
  kop : Int
  kfm : Nat
  kfi : Nat
  ktm : Nat
  kti : Nat
  now : Int
instance : Inhabited Dd9 := ⟨⟨0, 0, none, 0, 0, [], 0, 0, 0, 0, 0, 0⟩⟩
def Dd9.vals (x : Dd9) : List Value := [.int .i64 x.op, .int .u32 (x.to : Nat), .slice x.bA x.bN x.bC, .int .i64 x.kop, .int .u64 (x.kfm : Nat), .int .u32 (x.kfi : Nat), .int .u64 (x.ktm : Nat), .int .u32 (x.kti : Nat), .int .i64 x.now]
def Dd9.Wf (w : World) (x : Dd9) : Prop := (Lit.int .i64 x.op).wf = true ∧ x.to < 4294967296 ∧ (Sl w x.bA x.bN x.bC x.bZ ∧ x.bC ≤ 140737488351232) ∧ (Lit.int .i64 x.kop).wf = true ∧ x.kfm < 18446744073709551616 ∧ x.kfi < 4294967296 ∧ x.ktm < 18446744073709551616 ∧ x.kti < 4294967296 ∧ (Lit.int .i64 x.now).wf = true
structure SlDA (w : World) (a : Option Addr) (n c : Nat) (dd : List Dd9) : Prop where
  len : dd.length = n
  cap : n ≤ c
  small : n ≤ 281474976710656
  at_ : n = 0 ∨ ∃ b off, a = some ⟨b, off, none⟩ ∧ b < w.heap.size ∧ ∀ i x, dd[i]? = some x → ∀ j v, x.vals[j]? = some v → w.cell? ⟨b, off + i * 9 + j, none⟩ = some v
  wf : ∀ x ∈ dd, x.Wf w
theorem SlDA.below {w w' : World} {a : Option Addr} {n c : Nat} {dd : List Dd9} (h : SlDA w a n c dd) (hb : Below w.heap.size w w') : SlDA w' a n c dd := by
  refine ⟨h.len, h.cap, h.small, ?_, fun x hx => ?_⟩
  · rcases h.at_ with h0 | ⟨b, off, rfl, hlt, hc⟩
    · exact .inl h0
    · exact .inr ⟨b, off, rfl, Nat.lt_of_lt_of_le hlt hb.size, fun i x hx j v hv => (hb.cell (p := ⟨b, off + i * 9 + j, none⟩) hlt).trans (hc i x hx j v hv)⟩
  · have hh := h.wf x hx
    unfold Dd9.Wf at hh ⊢
    obtain ⟨h0, h1, h2, h3, h4, h5, h6, h7, h8⟩ := hh
    exact ⟨h0, h1, ⟨h2.1.below hb, h2.2⟩, h3, h4, h5, h6, h7, h8⟩
theorem SlDA.wAll_mem {H : Type} {P : Program} {e : TypeId} : ∀ {ds : List (DataW H)} {d : DataW H}, d ∈ ds → ∀ n ∈ d.weights P e, n ∈ DataW.weightsAll P e ds
  | x :: ds, d, hd, n, hn => by
    unfold DataW.weightsAll
    rcases List.mem_cons.1 hd with rfl | h
    · exact List.mem_append_left _ hn
    · exact List.mem_append_right _ (SlDA.wAll_mem h n hn)
theorem SlDA.cells_int : Try.prog.cellsOf 3 = 1 := by kernel_rfl
theorem SlDA.cells_uint32 : Try.prog.cellsOf 22 = 1 := by kernel_rfl
theorem SlDA.cells___uint8 : Try.prog.cellsOf 29 = 1 := by kernel_rfl
theorem SlDA.cells_api_Arp : Try.prog.cellsOf 31 = 5 := by kernel_rfl
theorem SlDA.cells_uint64 : Try.prog.cellsOf 28 = 1 := by kernel_rfl
theorem SlDA.bytes_u8 : Try.prog.bytesOf 5 = 1 := by kernel_rfl
theorem SlDA.open_bytes {H : Type} {enc : TypeId × Value → H} {w : World} {base : Nat} {held : Bool} {fuel : Nat} {v : Value} {y : DataW H × List MemPlace}
    (h : DataW.trod enc Try.prog w base (fun _ => true) held fuel 29 [v] = some y) (hw : ∀ n ∈ y.1.weights Try.prog 29, n ≤ reachBytes) : ∃ a n c zs, v = .slice a n c ∧ Sl w a n c zs ∧ c ≤ 140737488351232 := by
  rcases open_ints Try.underlying29 Try.underlying5 (by kernel_rfl) h with ⟨hcs, _⟩ | ⟨x, l, c, zs, hcs, _, hl, hm, hz, hx, hcell, hwz⟩
  · simp at hcs
    exact ⟨none, 0, 0, [], hcs, SlK.nil _ _ _ (by omega), by omega⟩
  · simp at hcs
    have hz' : zs.length = c := by simpa using hz
    have hb : (lits (H := H) .u8 (zs.take l)).length + (lits (H := H) .u8 (zs.drop l)).length ≤ reachBytes := by
      have := hw (((lits (H := H) .u8 (zs.take l)).length + (lits (H := H) .u8 (zs.drop l)).length) * Try.prog.bytesOf 5) (by
        rw [hx]
        unfold DataW.weights
        rw [Try.underlying29]
        simp)
      rwa [SlDA.bytes_u8, Nat.mul_one] at this
    simp only [lits, List.length_map, List.length_take, List.length_drop, reachBytes] at hb
    exact ⟨_, _, _, _, hcs, SlK.of_ints (by omega) (fun z hz => by simp [Lit.wf, IntKind.min, IntKind.max, IntKind.signed, IntKind.bits] at hz; omega) hl hm hz' (by omega) hcell hwz, by omega⟩
theorem SlDA.open_s0_fields : ∃ f0 f1 f2 f3 f4 : Field, Try.prog.underlying 31 = some (.struct #[f0, f1, f2, f3, f4]) ∧ f0.offset = 0 ∧ f1.offset = 1 ∧ f2.offset = 2 ∧ f3.offset = 3 ∧ f4.offset = 4 ∧ f0.type = 3 ∧ f1.type = 28 ∧ f2.type = 22 ∧ f3.type = 28 ∧ f4.type = 22 := ⟨_, _, _, _, _, Try.underlying31, rfl, rfl, rfl, rfl, rfl, rfl, rfl, rfl, rfl, rfl⟩
set_option linter.unusedVariables false in
set_option maxRecDepth 100000 in
theorem SlDA.open_s0 {H : Type} {enc : TypeId × Value → H} {w : World} {base : Nat} {held : Bool} {fuel : Nat} {cl : List Value} {y : DataW H × List MemPlace} (hl : cl.length = 5)
    (h : DataW.trod enc Try.prog w base (fun _ => true) held fuel 31 cl = some y) (hw : ∀ n ∈ y.1.weights Try.prog 31, n ≤ reachBytes) :
    ∃ (op : Int) (fm : Nat) (fi : Nat) (tm : Nat) (ti : Nat), cl = [.int .i64 op, .int .u64 (fm : Nat), .int .u32 (fi : Nat), .int .u64 (tm : Nat), .int .u32 (ti : Nat)] ∧ (Lit.int .i64 op).wf = true ∧ fm < 18446744073709551616 ∧ fi < 4294967296 ∧ tm < 18446744073709551616 ∧ ti < 4294967296 := by
  obtain ⟨f0, f1, f2, f3, f4, he, o0, o1, o2, o3, o4, t0, t1, t2, t3, t4⟩ := SlDA.open_s0_fields
  obtain ⟨xs, m, _, hx, _, hlen, hfs⟩ := DataW.trod_struct he h
  have hlen2 : xs.length = 5 := hlen
  match cl, hl, xs, hlen2 with
  | [v0, v1, v2, v3, v4], _, [y0, y1, y2, y3, y4], _ =>
    have hd := congrArg Prod.fst hx
    simp only [List.map_cons, List.map_nil] at hd
    have g0 := hfs 0 f0 rfl
    simp [o0, t0, SlDA.cells_int] at g0
    have g1 := hfs 1 f1 rfl
    simp [o1, t1, SlDA.cells_uint64] at g1
    have g2 := hfs 2 f2 rfl
    simp [o2, t2, SlDA.cells_uint32] at g2
    have g3 := hfs 3 f3 rfl
    simp [o3, t3, SlDA.cells_uint64] at g3
    have g4 := hfs 4 f4 rfl
    simp [o4, t4, SlDA.cells_uint32] at g4
    obtain ⟨opz, e0, _, w0⟩ := DataW.trod_int Try.underlying3 g0
    simp at e0
    subst e0
    obtain ⟨fmz, e1, _, w1⟩ := DataW.trod_int Try.underlying28 g1
    simp at e1
    subst e1
    obtain ⟨fm, rfl⟩ : ∃ m : Nat, fmz = (m : Int) := ⟨fmz.toNat, by have := bounds_u64 w1; omega⟩
    have b1 : fm < 18446744073709551616 := by have := bounds_u64 w1; omega
    obtain ⟨fiz, e2, _, w2⟩ := DataW.trod_int Try.underlying22 g2
    simp at e2
    subst e2
    obtain ⟨fi, rfl⟩ : ∃ m : Nat, fiz = (m : Int) := ⟨fiz.toNat, by have := bounds_u32 w2; omega⟩
    have b2 : fi < 4294967296 := by have := bounds_u32 w2; omega
    obtain ⟨tmz, e3, _, w3⟩ := DataW.trod_int Try.underlying28 g3
    simp at e3
    subst e3
    obtain ⟨tm, rfl⟩ : ∃ m : Nat, tmz = (m : Int) := ⟨tmz.toNat, by have := bounds_u64 w3; omega⟩
    have b3 : tm < 18446744073709551616 := by have := bounds_u64 w3; omega
    obtain ⟨tiz, e4, _, w4⟩ := DataW.trod_int Try.underlying22 g4
    simp at e4
    subst e4
    obtain ⟨ti, rfl⟩ : ∃ m : Nat, tiz = (m : Int) := ⟨tiz.toNat, by have := bounds_u32 w4; omega⟩
    have b4 : ti < 4294967296 := by have := bounds_u32 w4; omega
    exact ⟨opz, fm, fi, tm, ti, rfl, w0, b1, b2, b3, b4⟩
theorem SlDA.open_all_fields : ∃ f0 f1 f2 f3 f4 : Field, Try.prog.underlying 33 = some (.struct #[f0, f1, f2, f3, f4]) ∧ f0.offset = 0 ∧ f1.offset = 1 ∧ f2.offset = 2 ∧ f3.offset = 3 ∧ f4.offset = 8 ∧ f0.type = 3 ∧ f1.type = 22 ∧ f2.type = 29 ∧ f3.type = 31 ∧ f4.type = 3 := ⟨_, _, _, _, _, Try.underlying33, rfl, rfl, rfl, rfl, rfl, rfl, rfl, rfl, rfl, rfl⟩
set_option linter.unusedVariables false in
set_option maxRecDepth 100000 in
theorem SlDA.open_all {H : Type} {enc : TypeId × Value → H} {w : World} {base : Nat} {held : Bool} {fuel : Nat} {cl : List Value} {y : DataW H × List MemPlace} (hl : cl.length = 9)
    (h : DataW.trod enc Try.prog w base (fun _ => true) held fuel 33 cl = some y) (hw : ∀ n ∈ y.1.weights Try.prog 33, n ≤ reachBytes) :
    ∃ (op : Int) (to : Nat) (bA : Option Addr) (bN bC : Nat) (bZ : List Nat) (kop : Int) (kfm : Nat) (kfi : Nat) (ktm : Nat) (kti : Nat) (now : Int), cl = [.int .i64 op, .int .u32 (to : Nat), .slice bA bN bC, .int .i64 kop, .int .u64 (kfm : Nat), .int .u32 (kfi : Nat), .int .u64 (ktm : Nat), .int .u32 (kti : Nat), .int .i64 now] ∧ (Lit.int .i64 op).wf = true ∧ to < 4294967296 ∧ (Sl w bA bN bC bZ ∧ bC ≤ 140737488351232) ∧ (Lit.int .i64 kop).wf = true ∧ kfm < 18446744073709551616 ∧ kfi < 4294967296 ∧ ktm < 18446744073709551616 ∧ kti < 4294967296 ∧ (Lit.int .i64 now).wf = true := by
  obtain ⟨f0, f1, f2, f3, f4, he, o0, o1, o2, o3, o4, t0, t1, t2, t3, t4⟩ := SlDA.open_all_fields
  obtain ⟨xs, m, _, hx, _, hlen, hfs⟩ := DataW.trod_struct he h
  have hlen2 : xs.length = 5 := hlen
  match cl, hl, xs, hlen2 with
  | [v0, v1, v2, v3, v4, v5, v6, v7, v8], _, [y0, y1, y2, y3, y4], _ =>
    have hd := congrArg Prod.fst hx
    simp only [List.map_cons, List.map_nil] at hd
    have g0 := hfs 0 f0 rfl
    simp [o0, t0, SlDA.cells_int] at g0
    have g1 := hfs 1 f1 rfl
    simp [o1, t1, SlDA.cells_uint32] at g1
    have g2 := hfs 2 f2 rfl
    simp [o2, t2, SlDA.cells___uint8] at g2
    have g3 := hfs 3 f3 rfl
    simp [o3, t3, SlDA.cells_api_Arp] at g3
    have g4 := hfs 4 f4 rfl
    simp [o4, t4, SlDA.cells_int] at g4
    obtain ⟨opz, e0, _, w0⟩ := DataW.trod_int Try.underlying3 g0
    simp at e0
    subst e0
    obtain ⟨toz, e1, _, w1⟩ := DataW.trod_int Try.underlying22 g1
    simp at e1
    subst e1
    obtain ⟨to, rfl⟩ : ∃ m : Nat, toz = (m : Int) := ⟨toz.toNat, by have := bounds_u32 w1; omega⟩
    have b1 : to < 4294967296 := by have := bounds_u32 w1; omega
    obtain ⟨bA, bN, bC, bZ, rfl, s2, b2⟩ := SlDA.open_bytes g2 (fun q hq => hw q (by
      rw [hd]
      unfold DataW.weights
      rw [he]
      exact DataW.weights_mem_each (j := 2) (t := f2.type) (d := y2.1) rfl rfl q (by rw [t2]; exact hq)))
    obtain ⟨kop, kfm, kfi, ktm, kti, e3, Hkop, Hkfm, Hkfi, Hktm, Hkti⟩ := SlDA.open_s0 rfl g3 (fun q hq => hw q (by
      rw [hd]
      unfold DataW.weights
      rw [he]
      exact DataW.weights_mem_each (j := 3) (t := f3.type) (d := y3.1) rfl rfl q (by rw [t3]; exact hq)))
    simp at e3
    obtain ⟨rfl, rfl, rfl, rfl, rfl⟩ := e3
    obtain ⟨nowz, e4, _, w4⟩ := DataW.trod_int Try.underlying3 g4
    simp at e4
    subst e4
    exact ⟨opz, to, bA, bN, bC, bZ, kop, kfm, kfi, ktm, kti, nowz, rfl, w0, b1, ⟨s2, b2⟩, Hkop, Hkfm, Hkfi, Hktm, Hkti, w4⟩
theorem SlDA.cellsAll : Try.prog.cellsOf 33 = 9 := by kernel_rfl
theorem SlDA.bytesAll : Try.prog.bytesOf 33 = 88 := by kernel_rfl
theorem SlDA.open {H : Type} {enc : TypeId × Value → H} {w : World} {base : Nat} {held : Bool} {fuel : Nat} {a : Option Addr} {n c : Nat} {y : DataW H × List MemPlace}
    (h : DataW.trod enc Try.prog w base (fun _ => true) held fuel 23 [.slice a n c] = some y) (hw : ∀ n ∈ y.1.weights Try.prog 23, n ≤ reachBytes) : ∃ dd, SlDA w a n c dd := by
  rcases Go.Deep.open_slice Try.underlying23 h with ⟨hcs, _⟩ | ⟨x, l, k, m, fn, D, Pl, hcs, hb, hl, hm, hmm, hx, hc⟩
  · simp at hcs
    obtain ⟨rfl, rfl, rfl⟩ := hcs
    exact ⟨[], rfl, Nat.le_refl _, by omega, .inl rfl, fun x hx => (by cases hx)⟩
  · simp at hcs
    obtain ⟨rfl, rfl, rfl⟩ := hcs
    have hmc : m = c := by simpa using hmm
    subst hmc
    subst hx
    have hsz : m * 88 ≤ reachBytes := by
      have := hw ((((List.range n).map D).length + ((List.range (m - n)).map fun j => D (n + j)).length) * Try.prog.bytesOf 33) (by
        unfold DataW.weights
        rw [Try.underlying23]
        simp)
      rw [SlDA.bytesAll] at this
      simp at this
      omega
    simp only [reachBytes] at hsz
    rw [SlDA.cellsAll] at hc
    have hwi : ∀ i, i < n → ∀ q ∈ (D i).weights Try.prog 33, q ≤ reachBytes := by
      intro i hi q hq
      refine hw q ?_
      unfold DataW.weights
      rw [Try.underlying23]
      simp only [List.mem_cons, List.mem_append]
      exact .inr (.inl (SlDA.wAll_mem (List.mem_map.2 ⟨i, List.mem_range.2 hi, rfl⟩) q hq))
    have each : ∀ i, i < n → ∃ q : Dd9, (∀ j v, q.vals[j]? = some v → w.cell? (x.add (i * 9 + j)) = some v) ∧ q.Wf w := by
      intro i hi
      obtain ⟨cs', h1, h2⟩ := hc i (by omega)
      obtain ⟨_, hlen, hcell⟩ := World.cells?_some h1
      obtain ⟨op, to, bA, bN, bC, bZ, kop, kfm, kfi, ktm, kti, now, rfl, Hop, Hto, Hb, Hkop, Hkfm, Hkfi, Hktm, Hkti, Hnow⟩ := SlDA.open_all hlen h2 (hwi i hi)
      refine ⟨⟨op, to, bA, bN, bC, bZ, kop, kfm, kfi, ktm, kti, now⟩, fun j v hv => ?_, ⟨Hop, Hto, Hb, Hkop, Hkfm, Hkfi, Hktm, Hkti, Hnow⟩⟩
      have hj : j < 9 := (List.getElem?_eq_some_iff.1 hv).1
      have e := hcell j hj
      rw [Go.Deep.add_add] at e
      rw [e]
      exact hv
    obtain ⟨q, hq⟩ := Go.Deep.choose_lt each
    have hget : ∀ i z, ((List.range n).map q)[i]? = some z → i < n ∧ z = q i := fun i z hz => by
      have hi := (List.getElem?_eq_some_iff.1 hz).1
      simp at hi
      rw [List.getElem?_map, List.getElem?_range hi] at hz
      simp at hz
      exact ⟨hi, hz.symm⟩
    refine ⟨(List.range n).map q, by simp, hl, by omega, ?_, fun z hz => ?_⟩
    · by_cases h0 : n = 0
      · exact .inl h0
      · obtain ⟨b, off, spot⟩ := x
        have hc0 := (hq 0 (by omega)).1 0 _ rfl
        have hspot : spot = none := by simpa [Addr.add] using World.cell?_spot hc0
        subst hspot
        have hlt : b < w.heap.size := by
          have := hc0
          simp only [Addr.add, World.cell?] at this
          rcases Nat.lt_or_ge b w.heap.size with h9 | h9
          · exact h9
          · simp [h9] at this
        refine .inr ⟨b, off, rfl, hlt, fun i z hz j v hv => ?_⟩
        obtain ⟨hi, rfl⟩ := hget i z hz
        have h1 := (hq i hi).1 j v hv
        have ea : ∀ j, (⟨b, off, none⟩ : Addr).add j = ⟨b, off + j, none⟩ := by
          intro j
          unfold Addr.add
          split
          · subst_vars; rfl
          · rfl
        rw [ea] at h1
        rw [Nat.add_assoc]
        exact h1
    · obtain ⟨i, hi⟩ := List.getElem?_of_mem hz
      obtain ⟨hin, rfl⟩ := hget i z hi
      exact (hq i hin).2
end Go.Proofs.Ytpmnjfkcffddgaa
