/- A row of api.Mark, as it lies in a world. -/
import Derived.Test.YtpdnkbhgobdniaaProg
import Derived.Test.YtpdnkbhgobdniaaBase
import Derived.Deep.Strs
import Derived.RowKit
import Derived.ChangeSlices
import Derived.SizedLaws
import Derived.ProofKit
import Derived.OpenShut
namespace Go.Proofs.Ytpdnkbhgobdniaa
open Go.RowKit Go.ChangeShapes Go.WideShapes Go.ChangeAt
structure Mk where
  is : Int
  host : Int
  own : Nat
  peer : Nat
  mst : Nat
  mssn : Nat
  mpp : Nat
  mfree : Bool
  mdA : Option Addr
  mdN : Nat
  mdC : Nat
  mdZ : List Nat
  note : Int
instance : Inhabited Mk := ⟨⟨0, 0, 0, 0, 0, 0, 0, false, none, 0, 0, [], 0⟩⟩
def Mk.vals (x : Mk) : List Value := [.int .i64 x.is, .int .i64 x.host, .int .u32 (x.own : Nat), .int .u32 (x.peer : Nat), .int .u16 (x.mst : Nat), .int .u16 (x.mssn : Nat), .int .u32 (x.mpp : Nat), .bool x.mfree, .slice x.mdA x.mdN x.mdC, .int .i64 x.note]
def Mk.Wf (w : World) (x : Mk) : Prop := (Lit.int .i64 x.is).wf = true ∧ (Lit.int .i64 x.host).wf = true ∧ x.own < 4294967296 ∧ x.peer < 4294967296 ∧ x.mst < 65536 ∧ x.mssn < 65536 ∧ x.mpp < 4294967296 ∧ (Sl w x.mdA x.mdN x.mdC x.mdZ ∧ x.mdN ≤ 140737488351232) ∧ (Lit.int .i64 x.note).wf = true
structure SlM (w : World) (a : Option Addr) (n c : Nat) (dd : List Mk) : Prop where
  len : dd.length = n
  cap : n ≤ c
  small : n ≤ 281474976710656
  at_ : n = 0 ∨ ∃ b off, a = some ⟨b, off, none⟩ ∧ b < w.heap.size ∧ ∀ i x, dd[i]? = some x → ∀ j v, x.vals[j]? = some v → w.cell? ⟨b, off + i * 10 + j, none⟩ = some v
  wf : ∀ x ∈ dd, x.Wf w
theorem SlM.below {w w' : World} {a : Option Addr} {n c : Nat} {dd : List Mk} (h : SlM w a n c dd) (hb : Below w.heap.size w w') : SlM w' a n c dd := by
  refine ⟨h.len, h.cap, h.small, ?_, fun x hx => ?_⟩
  · rcases h.at_ with h0 | ⟨b, off, rfl, hlt, hc⟩
    · exact .inl h0
    · exact .inr ⟨b, off, rfl, Nat.lt_of_lt_of_le hlt hb.size, fun i x hx j v hv => (hb.cell (p := ⟨b, off + i * 10 + j, none⟩) hlt).trans (hc i x hx j v hv)⟩
  · have hh := h.wf x hx
    unfold Mk.Wf at hh ⊢
    obtain ⟨h0, h1, h2, h3, h4, h5, h6, h7, h8⟩ := hh
    exact ⟨h0, h1, h2, h3, h4, h5, h6, ⟨h7.1.below hb, h7.2⟩, h8⟩
theorem SlM.wAll_mem {H : Type} {P : Program} {e : TypeId} : ∀ {ds : List (DataW H)} {d : DataW H}, d ∈ ds → ∀ n ∈ d.weights P e, n ∈ DataW.weightsAll P e ds
  | x :: ds, d, hd, n, hn => by
    unfold DataW.weightsAll
    rcases List.mem_cons.1 hd with rfl | h
    · exact List.mem_append_left _ hn
    · exact List.mem_append_right _ (SlM.wAll_mem h n hn)
theorem SlM.cells_api_What : Try.prog.cellsOf 37 = 1 := by kernel_rfl
theorem SlM.cells_int : Try.prog.cellsOf 3 = 1 := by kernel_rfl
theorem SlM.cells_uint32 : Try.prog.cellsOf 29 = 1 := by kernel_rfl
theorem SlM.cells_api_Msg : Try.prog.cellsOf 41 = 5 := by kernel_rfl
theorem SlM.cells_uint16 : Try.prog.cellsOf 38 = 1 := by kernel_rfl
theorem SlM.cells_bool : Try.prog.cellsOf 4 = 1 := by kernel_rfl
theorem SlM.cells___uint8 : Try.prog.cellsOf 39 = 1 := by kernel_rfl
theorem SlM.cells_api_Notice : Try.prog.cellsOf 42 = 1 := by kernel_rfl
theorem SlM.bytes_u8 : Try.prog.bytesOf 5 = 1 := by kernel_rfl
theorem SlM.open_bytes {H : Type} {enc : TypeId × Value → H} {w : World} {base : Nat} {held : Bool} {fuel : Nat} {v : Value} {y : DataW H × List MemPlace}
    (h : DataW.trod enc Try.prog w base (fun _ => true) held fuel 39 [v] = some y) (hw : ∀ n ∈ y.1.weights Try.prog 39, n ≤ reachBytes) : ∃ a n c zs, v = .slice a n c ∧ Sl w a n c zs ∧ c ≤ 140737488351232 := by
  rcases open_ints Try.underlying39 Try.underlying5 (by kernel_rfl) h with ⟨hcs, _⟩ | ⟨x, l, c, zs, hcs, _, hl, hm, hz, hx, hcell, hwz⟩
  · simp at hcs
    exact ⟨none, 0, 0, [], hcs, SlK.nil _ _ _ (by omega), by omega⟩
  · simp at hcs
    have hz' : zs.length = c := by simpa using hz
    have hb : (lits (H := H) .u8 (zs.take l)).length + (lits (H := H) .u8 (zs.drop l)).length ≤ reachBytes := by
      have := hw (((lits (H := H) .u8 (zs.take l)).length + (lits (H := H) .u8 (zs.drop l)).length) * Try.prog.bytesOf 5) (by
        rw [hx]
        unfold DataW.weights
        rw [Try.underlying39]
        simp)
      rwa [SlM.bytes_u8, Nat.mul_one] at this
    simp only [lits, List.length_map, List.length_take, List.length_drop, reachBytes] at hb
    exact ⟨_, _, _, _, hcs, SlK.of_ints (by omega) (fun z hz => by simp [Lit.wf, IntKind.min, IntKind.max, IntKind.signed, IntKind.bits] at hz; omega) hl hm hz' (by omega) hcell hwz, by omega⟩
theorem SlM.open_s0_fields : ∃ f0 f1 f2 f3 f4 : Field, Try.prog.underlying 41 = some (.struct #[f0, f1, f2, f3, f4]) ∧ f0.offset = 0 ∧ f1.offset = 1 ∧ f2.offset = 2 ∧ f3.offset = 3 ∧ f4.offset = 4 ∧ f0.type = 38 ∧ f1.type = 38 ∧ f2.type = 29 ∧ f3.type = 4 ∧ f4.type = 39 := ⟨_, _, _, _, _, Try.underlying41, rfl, rfl, rfl, rfl, rfl, rfl, rfl, rfl, rfl, rfl⟩
set_option linter.unusedVariables false in
set_option maxRecDepth 100000 in
theorem SlM.open_s0 {H : Type} {enc : TypeId × Value → H} {w : World} {base : Nat} {held : Bool} {fuel : Nat} {cl : List Value} {y : DataW H × List MemPlace} (hl : cl.length = 5)
    (h : DataW.trod enc Try.prog w base (fun _ => true) held fuel 41 cl = some y) (hw : ∀ n ∈ y.1.weights Try.prog 41, n ≤ reachBytes) :
    ∃ (st : Nat) (ssn : Nat) (pp : Nat) (free : Bool) (dA : Option Addr) (dN dC : Nat) (dZ : List Nat), cl = [.int .u16 (st : Nat), .int .u16 (ssn : Nat), .int .u32 (pp : Nat), .bool free, .slice dA dN dC] ∧ st < 65536 ∧ ssn < 65536 ∧ pp < 4294967296 ∧ (Sl w dA dN dC dZ ∧ dC ≤ 140737488351232) := by
  obtain ⟨f0, f1, f2, f3, f4, he, o0, o1, o2, o3, o4, t0, t1, t2, t3, t4⟩ := SlM.open_s0_fields
  obtain ⟨xs, m, _, hx, _, hlen, hfs⟩ := DataW.trod_struct he h
  have hlen2 : xs.length = 5 := hlen
  match cl, hl, xs, hlen2 with
  | [v0, v1, v2, v3, v4], _, [y0, y1, y2, y3, y4], _ =>
    have hd := congrArg Prod.fst hx
    simp only [List.map_cons, List.map_nil] at hd
    have g0 := hfs 0 f0 rfl
    simp [o0, t0, SlM.cells_uint16] at g0
    have g1 := hfs 1 f1 rfl
    simp [o1, t1, SlM.cells_uint16] at g1
    have g2 := hfs 2 f2 rfl
    simp [o2, t2, SlM.cells_uint32] at g2
    have g3 := hfs 3 f3 rfl
    simp [o3, t3, SlM.cells_bool] at g3
    have g4 := hfs 4 f4 rfl
    simp [o4, t4, SlM.cells___uint8] at g4
    obtain ⟨stz, e0, _, w0⟩ := DataW.trod_int Try.underlying38 g0
    simp at e0
    subst e0
    obtain ⟨st, rfl⟩ : ∃ m : Nat, stz = (m : Int) := ⟨stz.toNat, by have := bounds_u16 w0; omega⟩
    have b0 : st < 65536 := by have := bounds_u16 w0; omega
    obtain ⟨ssnz, e1, _, w1⟩ := DataW.trod_int Try.underlying38 g1
    simp at e1
    subst e1
    obtain ⟨ssn, rfl⟩ : ∃ m : Nat, ssnz = (m : Int) := ⟨ssnz.toNat, by have := bounds_u16 w1; omega⟩
    have b1 : ssn < 65536 := by have := bounds_u16 w1; omega
    obtain ⟨ppz, e2, _, w2⟩ := DataW.trod_int Try.underlying29 g2
    simp at e2
    subst e2
    obtain ⟨pp, rfl⟩ : ∃ m : Nat, ppz = (m : Int) := ⟨ppz.toNat, by have := bounds_u32 w2; omega⟩
    have b2 : pp < 4294967296 := by have := bounds_u32 w2; omega
    obtain ⟨free, e3, _⟩ := DataW.trod_bool Try.underlying4 g3
    simp at e3
    subst e3
    obtain ⟨dA, dN, dC, dZ, rfl, s4, b4⟩ := SlM.open_bytes g4 (fun q hq => hw q (by
      rw [hd]
      unfold DataW.weights
      rw [he]
      exact DataW.weights_mem_each (j := 4) (t := f4.type) (d := y4.1) rfl rfl q (by rw [t4]; exact hq)))
    exact ⟨st, ssn, pp, free, dA, dN, dC, dZ, rfl, b0, b1, b2, ⟨s4, b4⟩⟩
theorem SlM.open_all_fields : ∃ f0 f1 f2 f3 f4 f5 : Field, Try.prog.underlying 44 = some (.struct #[f0, f1, f2, f3, f4, f5]) ∧ f0.offset = 0 ∧ f1.offset = 1 ∧ f2.offset = 2 ∧ f3.offset = 3 ∧ f4.offset = 4 ∧ f5.offset = 9 ∧ f0.type = 37 ∧ f1.type = 3 ∧ f2.type = 29 ∧ f3.type = 29 ∧ f4.type = 41 ∧ f5.type = 42 := ⟨_, _, _, _, _, _, Try.underlying44, rfl, rfl, rfl, rfl, rfl, rfl, rfl, rfl, rfl, rfl, rfl, rfl⟩
set_option linter.unusedVariables false in
set_option maxRecDepth 100000 in
theorem SlM.open_all {H : Type} {enc : TypeId × Value → H} {w : World} {base : Nat} {held : Bool} {fuel : Nat} {cl : List Value} {y : DataW H × List MemPlace} (hl : cl.length = 10)
    (h : DataW.trod enc Try.prog w base (fun _ => true) held fuel 44 cl = some y) (hw : ∀ n ∈ y.1.weights Try.prog 44, n ≤ reachBytes) :
    ∃ (is : Int) (host : Int) (own : Nat) (peer : Nat) (mst : Nat) (mssn : Nat) (mpp : Nat) (mfree : Bool) (mdA : Option Addr) (mdN mdC : Nat) (mdZ : List Nat) (note : Int), cl = [.int .i64 is, .int .i64 host, .int .u32 (own : Nat), .int .u32 (peer : Nat), .int .u16 (mst : Nat), .int .u16 (mssn : Nat), .int .u32 (mpp : Nat), .bool mfree, .slice mdA mdN mdC, .int .i64 note] ∧ (Lit.int .i64 is).wf = true ∧ (Lit.int .i64 host).wf = true ∧ own < 4294967296 ∧ peer < 4294967296 ∧ mst < 65536 ∧ mssn < 65536 ∧ mpp < 4294967296 ∧ (Sl w mdA mdN mdC mdZ ∧ mdC ≤ 140737488351232) ∧ (Lit.int .i64 note).wf = true := by
  obtain ⟨f0, f1, f2, f3, f4, f5, he, o0, o1, o2, o3, o4, o5, t0, t1, t2, t3, t4, t5⟩ := SlM.open_all_fields
  obtain ⟨xs, m, _, hx, _, hlen, hfs⟩ := DataW.trod_struct he h
  have hlen2 : xs.length = 6 := hlen
  match cl, hl, xs, hlen2 with
  | [v0, v1, v2, v3, v4, v5, v6, v7, v8, v9], _, [y0, y1, y2, y3, y4, y5], _ =>
    have hd := congrArg Prod.fst hx
    simp only [List.map_cons, List.map_nil] at hd
    have g0 := hfs 0 f0 rfl
    simp [o0, t0, SlM.cells_api_What] at g0
    have g1 := hfs 1 f1 rfl
    simp [o1, t1, SlM.cells_int] at g1
    have g2 := hfs 2 f2 rfl
    simp [o2, t2, SlM.cells_uint32] at g2
    have g3 := hfs 3 f3 rfl
    simp [o3, t3, SlM.cells_uint32] at g3
    have g4 := hfs 4 f4 rfl
    simp [o4, t4, SlM.cells_api_Msg] at g4
    have g5 := hfs 5 f5 rfl
    simp [o5, t5, SlM.cells_api_Notice] at g5
    obtain ⟨isz, e0, _, w0⟩ := DataW.trod_int Try.underlying37 g0
    simp at e0
    subst e0
    obtain ⟨hostz, e1, _, w1⟩ := DataW.trod_int Try.underlying3 g1
    simp at e1
    subst e1
    obtain ⟨ownz, e2, _, w2⟩ := DataW.trod_int Try.underlying29 g2
    simp at e2
    subst e2
    obtain ⟨own, rfl⟩ : ∃ m : Nat, ownz = (m : Int) := ⟨ownz.toNat, by have := bounds_u32 w2; omega⟩
    have b2 : own < 4294967296 := by have := bounds_u32 w2; omega
    obtain ⟨peerz, e3, _, w3⟩ := DataW.trod_int Try.underlying29 g3
    simp at e3
    subst e3
    obtain ⟨peer, rfl⟩ : ∃ m : Nat, peerz = (m : Int) := ⟨peerz.toNat, by have := bounds_u32 w3; omega⟩
    have b3 : peer < 4294967296 := by have := bounds_u32 w3; omega
    obtain ⟨mst, mssn, mpp, mfree, mdA, mdN, mdC, mdZ, e4, Hmst, Hmssn, Hmpp, Hmd⟩ := SlM.open_s0 rfl g4 (fun q hq => hw q (by
      rw [hd]
      unfold DataW.weights
      rw [he]
      exact DataW.weights_mem_each (j := 4) (t := f4.type) (d := y4.1) rfl rfl q (by rw [t4]; exact hq)))
    simp at e4
    obtain ⟨rfl, rfl, rfl, rfl, rfl⟩ := e4
    obtain ⟨notez, e5, _, w5⟩ := DataW.trod_int Try.underlying42 g5
    simp at e5
    subst e5
    exact ⟨isz, hostz, own, peer, mst, mssn, mpp, mfree, mdA, mdN, mdC, mdZ, notez, rfl, w0, w1, b2, b3, Hmst, Hmssn, Hmpp, Hmd, w5⟩
theorem SlM.cellsAll : Try.prog.cellsOf 44 = 10 := by kernel_rfl
theorem SlM.bytesAll : Try.prog.bytesOf 44 = 72 := by kernel_rfl
theorem SlM.open {H : Type} {enc : TypeId × Value → H} {w : World} {base : Nat} {held : Bool} {fuel : Nat} {a : Option Addr} {n c : Nat} {y : DataW H × List MemPlace}
    (h : DataW.trod enc Try.prog w base (fun _ => true) held fuel 22 [.slice a n c] = some y) (hw : ∀ n ∈ y.1.weights Try.prog 22, n ≤ reachBytes) : ∃ dd, SlM w a n c dd := by
  rcases Go.Deep.open_slice Try.underlying22 h with ⟨hcs, _⟩ | ⟨x, l, k, m, fn, D, Pl, hcs, hb, hl, hm, hmm, hx, hc⟩
  · simp at hcs
    obtain ⟨rfl, rfl, rfl⟩ := hcs
    exact ⟨[], rfl, Nat.le_refl _, by omega, .inl rfl, fun x hx => (by cases hx)⟩
  · simp at hcs
    obtain ⟨rfl, rfl, rfl⟩ := hcs
    have hmc : m = c := by simpa using hmm
    subst hmc
    subst hx
    have hsz : m * 72 ≤ reachBytes := by
      have := hw ((((List.range n).map D).length + ((List.range (m - n)).map fun j => D (n + j)).length) * Try.prog.bytesOf 44) (by
        unfold DataW.weights
        rw [Try.underlying22]
        simp)
      rw [SlM.bytesAll] at this
      simp at this
      omega
    simp only [reachBytes] at hsz
    rw [SlM.cellsAll] at hc
    have hwi : ∀ i, i < n → ∀ q ∈ (D i).weights Try.prog 44, q ≤ reachBytes := by
      intro i hi q hq
      refine hw q ?_
      unfold DataW.weights
      rw [Try.underlying22]
      simp only [List.mem_cons, List.mem_append]
      exact .inr (.inl (SlM.wAll_mem (List.mem_map.2 ⟨i, List.mem_range.2 hi, rfl⟩) q hq))
    have each : ∀ i, i < n → ∃ q : Mk, (∀ j v, q.vals[j]? = some v → w.cell? (x.add (i * 10 + j)) = some v) ∧ q.Wf w := by
      intro i hi
      obtain ⟨cs', h1, h2⟩ := hc i (by omega)
      obtain ⟨_, hlen, hcell⟩ := World.cells?_some h1
      obtain ⟨is, host, own, peer, mst, mssn, mpp, mfree, mdA, mdN, mdC, mdZ, note, rfl, His, Hhost, Hown, Hpeer, Hmst, Hmssn, Hmpp, Hmd, Hnote⟩ := SlM.open_all hlen h2 (hwi i hi)
      refine ⟨⟨is, host, own, peer, mst, mssn, mpp, mfree, mdA, mdN, mdC, mdZ, note⟩, fun j v hv => ?_, ⟨His, Hhost, Hown, Hpeer, Hmst, Hmssn, Hmpp, ⟨Hmd.1, Nat.le_trans Hmd.1.cap Hmd.2⟩, Hnote⟩⟩
      have hj : j < 10 := (List.getElem?_eq_some_iff.1 hv).1
      have e := hcell j hj
      rw [Go.Deep.add_add] at e
      rw [e]
      exact hv
    obtain ⟨q, hq⟩ := Go.Deep.choose_lt each
    have hget : ∀ i z, ((List.range n).map q)[i]? = some z → i < n ∧ z = q i := fun i z hz => by
      have hi := (List.getElem?_eq_some_iff.1 hz).1
      simp at hi
      rw [List.getElem?_map, List.getElem?_range hi] at hz
      simp at hz
      exact ⟨hi, hz.symm⟩
    refine ⟨(List.range n).map q, by simp, hl, by omega, ?_, fun z hz => ?_⟩
    · by_cases h0 : n = 0
      · exact .inl h0
      · obtain ⟨b, off, spot⟩ := x
        have hc0 := (hq 0 (by omega)).1 0 _ rfl
        have hspot : spot = none := by simpa [Addr.add] using World.cell?_spot hc0
        subst hspot
        have hlt : b < w.heap.size := by
          have := hc0
          simp only [Addr.add, World.cell?] at this
          rcases Nat.lt_or_ge b w.heap.size with h9 | h9
          · exact h9
          · simp [h9] at this
        refine .inr ⟨b, off, rfl, hlt, fun i z hz j v hv => ?_⟩
        obtain ⟨hi, rfl⟩ := hget i z hz
        have h1 := (hq i hi).1 j v hv
        have ea : ∀ j, (⟨b, off, none⟩ : Addr).add j = ⟨b, off + j, none⟩ := by
          intro j
          unfold Addr.add
          split
          · subst_vars; rfl
          · rfl
        rw [ea] at h1
        rw [Nat.add_assoc]
        exact h1
    · obtain ⟨i, hi⟩ := List.getElem?_of_mem hz
      obtain ⟨hin, rfl⟩ := hget i z hi
      exact (hq i hin).2
end Go.Proofs.Ytpdnkbhgobdniaa
