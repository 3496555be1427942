/- A drawn region that makes a variable and stores into it; calls that only make memory beside: in any order. -/
import Derived.Test.YtjaheelgcjafcaaBase
import Derived.Test.YtjaheelgcjafcaaFrM
import Derived.Test.YtjaheelgcjafcaaProg
import Derived.Lib.MinMax
import Derived.Deep.MidRow
import Derived.Deep.RegionHeld3
import Derived.Deep.Draws
import Derived.Deep.QuietTactic
import Derived.BigQuiet
import Derived.Test.YtjaheelgcjafcaaSerL
import Derived.Deep.OwnRows
import Derived.Carry
import Derived.Test.YtjaheelgcjafcaaMpD
import Derived.Test.YtjaheelgcjafcaaMpIt
import Derived.Test.YtjaheelgcjafcaaKA
import Derived.Test.YtjaheelgcjafcaaOwnG
import Derived.Test.YtjaheelgcjafcaaOwn
import Derived.Test.YtjaheelgcjafcaaRgZ
namespace Go.Proofs.Ytjaheelgcjafcaa
open Go.RowKit
/-- A struct in a block of its own. -/
structure Stc (w : World) (q : Nat) (cs : List Value) : Prop where
  lt : q < w.heap.size
  cell : ∀ (i : Nat) v, cs[i]? = some v → w.cell? ⟨q, i, none⟩ = some v
  free : ∀ i, w.frozen? ⟨q, i, none⟩ = false
theorem Stc.new (w : World) (cs : List Value) (T : TypeId) (W : World) (hW : W = w.alloc (.cells cs.toArray T)) : Stc W w.heap.size cs := by
  subst hW
  refine ⟨by simp, fun i v h => ?_, fun i => ?_⟩
  · rw [World.cell?_alloc_mark]
    simpa using h
  · have hh : (w.alloc (.cells cs.toArray T)).heap[w.heap.size]? = some (.cells cs.toArray T) := by
      show (w.heap.push _)[w.heap.size]? = _
      simp
    unfold World.frozen?
    dsimp only
    rw [hh]
    simp
theorem Stc.fr {P : Nat → Prop} {w w' : World} {q : Nat} {cs : List Value} (h : Stc w q cs) (hf : Fr P w w') (hp : ¬ P q) : Stc w' q cs :=
  ⟨Nat.lt_of_lt_of_le h.lt hf.size, fun i v hv => (hf.cell ⟨q, i, none⟩ h.lt hp).trans (h.cell i v hv), fun i => (hf.frozen ⟨q, i, none⟩ h.lt hp).trans (h.free i)⟩
theorem Stc.below {w w' : World} {q : Nat} {cs : List Value} (h : Stc w q cs) (hb : Below w.heap.size w w') : Stc w' q cs :=
  h.fr (Fr.of_below (P := fun _ => False) hb) (fun h => h)
theorem Stc.range {w : World} {q : Nat} {cs : List Value} (h : Stc w q cs) : w.rangeAt q 0 cs := fun i v hv => by rw [Nat.zero_add]; exact h.cell i v hv
theorem results_cellE {fn : Func} {p : Tmp} {ty : TypeId} (h : fn.results = #[.cell p ty]) (tmps : Array Value) (w : World) (g o : Nat) (cs : List Value) (d : TypeDesc)
    (hp : tmps.getD p undef = .pointer (some ⟨g, o, none⟩)) (hc : w.rangeAt g o cs) (hu : Try.prog.underlying ty = some d) (hd : d.isRow = true) (hi : (Try.prog.info? ty).map (·.size) = some cs.length) :
    (results fn tmps).run Try.prog w = .ok (.agg cs.toArray) w := by
  have hp' : tmps[p]?.getD undef = .pointer (some ⟨g, o, none⟩) := by simpa using hp
  simp [results, h, hp', asAddr, run_loadVar_mid w g o ty cs d hc hu hd hi]
end Go.Proofs.Ytjaheelgcjafcaa
namespace Go.Proofs.Ytjaheelgcjafcaa
open Go.RowKit
theorem flag_begins : ∀ f : Nat, f < 256 → (bits BinOp.and IntKind.u8 (f : Int) 2 != 0) = decide (f / 2 % 2 = 1) := by decide +kernel
set_option linter.unusedVariables false in
set_option maxRecDepth 100000 in
theorem begins_any (f : Nat) (c1 c2 c3 c4 : Value) (w : World) (hf : f < 256) (v : Value) (hv : v = .agg #[.int .u8 (f : Nat), c1, c2, c3, c4]) :
    Calls Try.prog 39 #[v] w fun e w' => e = .returned (.bool (decide (f / 2 % 2 = 1))) ∧ Below w.heap.size w w' := by
  subst hv
  have hfl := flag_begins f hf
  go_enter Try.func39, Try.ntmps39
  go_wp2
  try rw [hfl]
  go_ret
  exact ⟨by first | rfl | rw [hfl], (Below.refl _ _).alloc (Nat.le_refl _) _⟩
theorem flag_ends : ∀ f : Nat, f < 256 → (bits BinOp.and IntKind.u8 (f : Int) 1 != 0) = decide (f % 2 = 1) := by decide +kernel
set_option linter.unusedVariables false in
set_option maxRecDepth 100000 in
theorem ends_any (f : Nat) (c1 c2 c3 c4 : Value) (w : World) (hf : f < 256) (v : Value) (hv : v = .agg #[.int .u8 (f : Nat), c1, c2, c3, c4]) :
    Calls Try.prog 42 #[v] w fun e w' => e = .returned (.bool (decide (f % 2 = 1))) ∧ Below w.heap.size w w' := by
  subst hv
  have hfl := flag_ends f hf
  go_enter Try.func42, Try.ntmps42
  go_wp2
  try rw [hfl]
  go_ret
  exact ⟨by first | rfl | rw [hfl], (Below.refl _ _).alloc (Nat.le_refl _) _⟩
theorem flag_free : ∀ f : Nat, f < 256 → (bits BinOp.and IntKind.u8 (f : Int) 4 != 0) = decide (f / 4 % 2 = 1) := by decide +kernel
set_option linter.unusedVariables false in
set_option maxRecDepth 100000 in
theorem free_any (f : Nat) (c1 c2 c3 c4 : Value) (w : World) (hf : f < 256) (v : Value) (hv : v = .agg #[.int .u8 (f : Nat), c1, c2, c3, c4]) :
    Calls Try.prog 43 #[v] w fun e w' => e = .returned (.bool (decide (f / 4 % 2 = 1))) ∧ Below w.heap.size w w' := by
  subst hv
  have hfl := flag_free f hf
  go_enter Try.func43, Try.ntmps43
  go_wp2
  try rw [hfl]
  go_ret
  exact ⟨by first | rfl | rw [hfl], (Below.refl _ _).alloc (Nat.le_refl _) _⟩
end Go.Proofs.Ytjaheelgcjafcaa
namespace Go.Proofs.Ytjaheelgcjafcaa
open Go.RowKit
theorem chk32 (a : Nat) (h : a < 4294967296) : chkE 32 [a] = 0 := by
  unfold chkE rnd
  simp [h]
theorem chk16 (a b : Nat) (h : a < 65536) (h2 : b < 65536) : chkE 16 [a, b] = 0 := by
  unfold chkE rnd
  simp [h, h2]
set_option linter.unusedVariables false in
set_option maxRecDepth 100000 in
theorem onward_any (a : Nat) (n : Int) (w : World) (ha : a < 4294967296) (v u : Value) (hv : v = .int .u32 (a : Nat)) (hu : u = .int .i64 n) :
    Calls Try.prog 41 #[v, u] w fun e w' => e = .returned (.int .u32 (addV 4294967296 a n : Nat)) ∧ Below w.heap.size w w' := by
  subst hv hu
  have HR : Hid (addR 32 a n = addV 4294967296 a n) := by
    show _ = _
    unfold addR
    rw [if_pos (chk32 a ha)]
    rfl
  have hadd := fun W => add_any 32 a n ha W
  generalize addR 32 a n = r at *
  generalize chkE 32 [a] = q at *
  go_enter Try.func41, Try.ntmps41
  go_wp2_with fail
  refine (hadd _).mono ?_
  rintro e w1 ⟨rfl, hb⟩
  have HB := (show Hid _ from hb)
  clear hb hadd
  go_wp2
  go_ret
  exact ⟨by rw [HR.out]; rfl, by first | exact HB.out | exact HB.out.drew⟩
set_option linter.unusedVariables false in
set_option maxRecDepth 100000 in
theorem isLess_any (a b : Nat) (w : World) (ha : a < 65536) (hb : b < 65536) (v u : Value) (hv : v = .int .u16 (a : Nat)) (hu : u = .int .u16 (b : Nat)) :
    Calls Try.prog 45 #[v, u] w fun e w' => e = .returned (.bool (decide (0 < aheadV 65536 a b))) ∧ Below w.heap.size w w' := by
  subst hv hu
  have HR : Hid (lessR 16 a b = decide (0 < aheadV 65536 a b)) := by
    show _ = _
    unfold lessR aheadR
    rw [if_pos (chk16 a b ha hb)]
    rfl
  have hless := fun W => less_any 16 a b (by omega) (by omega) W
  generalize lessR 16 a b = r at *
  generalize chkE 16 [a, b] = q at *
  go_enter Try.func45, Try.ntmps45
  go_wp2_with fail
  refine (hless _).mono ?_
  rintro e w1 ⟨rfl, hb⟩
  have HB := (show Hid _ from hb)
  clear hb hless
  go_wp2
  go_ret
  exact ⟨by rw [HR.out]; rfl, by first | exact HB.out | exact HB.out.drew⟩
end Go.Proofs.Ytjaheelgcjafcaa
namespace Go.Proofs.Ytjaheelgcjafcaa
open Go.RowKit
set_option linter.unusedVariables false in
set_option maxRecDepth 100000 in
theorem snew_bad (n : Int) (w : World) (h : ¬ (1 ≤ n ∧ n ≤ 8)) :
    Calls Try.prog 12 #[.int .i64 n] w fun e w' => e = .returned (.tuple #[.pointer none, .int .i64 2]) ∧ Below w.heap.size w w' := by
  by_cases h1 : n < 1
  · go_enter Try.func12, Try.ntmps12
    go_wp2
    go_ret2
    exact ⟨rfl, Below.refl _ _⟩
  · have h2 : 8 < n := by omega
    go_enter Try.func12, Try.ntmps12
    go_wp2
    go_ret2
    exact ⟨rfl, Below.refl _ _⟩
theorem u16_info : (Try.prog.info? 42).map (fun i => (i.zero, i.size, i.bytes)) = some (some (.int .u16 0), 1, 2) := by kernel_rfl
theorem mk16 (c : Nat) (hc : c ≤ 64) (w : World) : (Instr.makeSlice 72 (.int .i64 (c : Int)) (.int .i64 (c : Int))).run Try.prog w = .ok (.slice (some ⟨w.heap.size, 0, none⟩) c c) (w.alloc (.cells (madeCells #[.int .u16 0] c) 42)) :=
  run_make_row' 72 42 (.int .u16 0) 2 Try.underlying72 u16_info rfl .i64 .i64 c (by omega) (by omega) w
set_option linter.unusedVariables false in
set_option maxRecDepth 100000 in
theorem snew_ok (n : Nat) (w : World) (h1 : 1 ≤ n) (h2 : n ≤ 8) :
    Calls Try.prog 12 #[.int .i64 (n : Nat)] w fun e w' => e = .returned (.tuple #[.pointer (some ⟨w.heap.size + 3, 0, none⟩), .int .i64 0])
      ∧ w' = (((w.alloc (.cells (madeCells #[.int .u16 0] n) 42)).alloc (.map #[] 0)).alloc (.map #[] 0)).alloc (.cells #[.slice (some ⟨w.heap.size, 0, none⟩) n n, .map (some (w.heap.size + 1)), .map (some (w.heap.size + 2))] 76) := by
  have h3 : ¬ (n : Int) < 1 := by omega
  have h4 : ¬ (8 : Int) < (n : Int) := by omega
  have hmk := mk16 n (by omega)
  have hm1 := fun W => run_makeMap (P := Try.prog) 73 W
  have hm2 := fun W => run_makeMap (P := Try.prog) 74 W
  go_enter Try.func12, Try.ntmps12
  go_wp2
  go_ret2
  exact ⟨rfl, rfl⟩
end Go.Proofs.Ytjaheelgcjafcaa
namespace Go.Proofs.Ytjaheelgcjafcaa
open Go.RowKit Go.MapKept Go.Maps
def ipV (q : Nat) : Value := .int .u32 (q : Nat)
def IpK (q : Nat) : Prop := q < 4294967296
theorem ipKE : KE Try.prog 30 ipV IpK where
  keyed := int_keyed Try.underlying30
  ok q h := ⟨_, keyOf_int_mk Try.underlying30 (by unfold IpK at h; simp [Lit.wf, IntKind.min, IntKind.max, IntKind.signed, IntKind.bits]; omega)⟩
  inj q q' _ _ h := by simp [ipV] at h; omega
theorem slaid : laidOutB Try.prog = true := by kernel_rfl
/-- A stream and an SSN as a key. -/
def tuV (q : Nat) : Value := .agg #[.int .u16 ((q / 65536 : Nat) : Int), .int .u16 ((q % 65536 : Nat) : Int)]
theorem kcells_u16 : Try.prog.cellsOf 42 = 1 := by kernel_rfl
theorem kcells_tu : Try.prog.cellsOf 86 = 2 := by kernel_rfl
theorem ktypes : ∃ n, Try.prog.types.size + 1 = n + 1 + 1 := ⟨Try.prog.types.size - 1, by have : 0 < Try.prog.types.size := of_decide_eq_true (by kernel_rfl); omega⟩
theorem klit_16 (d x : Nat) (h : x < 65536) : Try.prog.keyLits (d + 1) 42 [.int .u16 (x : Nat)] = some [Lit.int .u16 (x : Nat)] := by
  unfold Program.keyLits
  rw [Try.underlying42]
  simp [Lit.wf, IntKind.min, IntKind.max, IntKind.signed, IntKind.bits]
  omega
theorem tu_ok (q : Nat) (h : IpK q) : ∃ l, keyOf Try.prog 86 (tuV q) = some l := by
  obtain ⟨n, hn⟩ := ktypes
  have h1 : q / 65536 < 65536 := by unfold IpK at h; omega
  have h2 : q % 65536 < 65536 := by omega
  unfold tuV
  generalize q / 65536 = a at *
  generalize q % 65536 = b at *
  have hk : Try.prog.keyType 86 = true := by kernel_rfl
  have hf : (Value.agg #[.int .u16 (a : Nat), .int .u16 (b : Nat)]).formed Try.prog 86 = true := by
    unfold Value.formed
    dsimp only
    rw [Try.underlying86]
    simp [kcells_tu]
  have hl : Try.prog.keyLits (n + 1 + 1) 86 (Value.agg #[.int .u16 (a : Nat), .int .u16 (b : Nat)]).cells.toList = some [Lit.int .u16 (a : Nat), Lit.int .u16 (b : Nat)] := by
    unfold Program.keyLits
    rw [Try.underlying86]
    simp [Value.cells, kcells_tu, kcells_u16, klit_16 _ _ h1, klit_16 _ _ h2]
  refine ⟨.string (keyBytes [Lit.int .u16 (a : Nat), Lit.int .u16 (b : Nat)]), ?_⟩
  unfold keyOf
  rw [Try.underlying86]
  dsimp only
  rw [hk, hf, hn, hl]
  rfl
theorem tuKE : KE Try.prog 86 tuV IpK where
  keyed := Keyed.of_law (deep_law_laid slaid (m := 2) (by omega) (of_decide_eq_true (by kernel_rfl)) (by kernel_rfl) (by kernel_rfl))
  ok := tu_ok
  inj q q' _ _ h := by
    simp [tuV] at h
    omega
theorem tu_key (st ss : Nat) (h : ss < 65536) : tuV (tkey st ss) = .agg #[.int .u16 (st : Nat), .int .u16 (ss : Nat)] := by
  unfold tuV tkey
  rw [show (st * 65536 + ss) / 65536 = st by omega, show (st * 65536 + ss) % 65536 = ss by omega]
theorem tkey_lt {st ss : Nat} (h1 : st < 65536) (h2 : ss < 65536) : IpK (tkey st ss) := by unfold IpK tkey; omega
def Pc.val (p : Pc) : Value := .agg #[.int .u8 (p.fl : Nat), .int .u16 (p.st : Nat), .int .u16 (p.ss : Nat), .int .u32 (p.pp : Nat), .slice p.a p.n p.c]
theorem zero_pc (w : World) : (zeroValue 79).run Try.prog w = .ok zeroPc.val w := by kernel_rfl
theorem zero_pcs (w : World) : (zeroValue 83).run Try.prog w = .ok (.slice none 0 0) w := by kernel_rfl
structure PcOk (x : Pc) : Prop where
  fl : x.fl < 256
  st : x.st < 8
  ss : x.ss < 65536
  pp : x.pp < 4294967296
  n1 : x.n ≤ 1452
/-- A piece as it lies: its bytes in a block of Y. -/
structure PcW (Y : Nat → Prop) (w : World) (x : Pc) : Prop where
  ok : PcOk x
  sl : Sl w x.a x.n x.c x.zs
  ap : ∀ g off, x.a = some ⟨g, off, none⟩ → Y g
theorem Sl.frA {w w' : World} {a : Option Addr} {n c : Nat} {zs : List Nat} {Q : Nat → Prop} (h : Sl w a n c zs) (hf : Fr Q w w') (hq : ∀ b off, a = some ⟨b, off, none⟩ → b < w.heap.size → ¬ Q b) : Sl w' a n c zs := by
  obtain ⟨h1, h2, h3, hsm, hnz, h4, h5⟩ := h
  refine ⟨h1, h2, h3, hsm, hnz, h4, ?_⟩
  rcases h5 with h5 | ⟨b, off, rfl, hlt, hc⟩
  · exact .inl h5
  · exact .inr ⟨b, off, rfl, Nat.lt_of_lt_of_le hlt hf.size, fun i hi => (hf.cell ⟨b, off + i, none⟩ hlt (hq b off rfl hlt)).trans (hc i hi)⟩
theorem PcW.fr {Y Q : Nat → Prop} {w w' : World} {x : Pc} (h : PcW Y w x) (hf : Fr Q w w') (hq : ∀ g, g < w.heap.size → Q g → ¬ Y g) : PcW Y w' x :=
  ⟨h.ok, h.sl.frA hf (fun b off e hl hQ => hq b hl hQ (h.ap b off e)), h.ap⟩
theorem PcW.mono {Y Y' : Nat → Prop} {w : World} {x : Pc} (h : PcW Y w x) (hy : ∀ g, Y g → Y' g) : PcW Y' w x := ⟨h.ok, h.sl, fun g off e => hy g (h.ap g off e)⟩
theorem PcW.len {Y : Nat → Prop} {w : World} {x : Pc} (h : PcW Y w x) : x.zs.length = x.n := h.sl.len
/-- A row of pieces as it lies. -/
structure RowW (Y : Nat → Prop) (w : World) (a : Option Addr) (c : Nat) (ps : List Pc) : Prop where
  at_ : ∃ g, a = some ⟨g, 0, none⟩ ∧ g < w.heap.size ∧ Y g ∧ ∀ (j : Nat) (x : Pc), ps[j]? = some x → ∀ (i : Nat) u, x.v[i]? = some u → w.cell? ⟨g, j * 5 + i, none⟩ = some u
  pos : 0 < ps.length
  le : ps.length ≤ 128
  cap : ps.length ≤ c ∧ c ≤ maxLen
  each : ∀ x ∈ ps, PcW Y w x
theorem RowW.fr {Y Q : Nat → Prop} {w w' : World} {a : Option Addr} {c : Nat} {ps : List Pc} (h : RowW Y w a c ps) (hf : Fr Q w w') (hq : ∀ g, g < w.heap.size → Q g → ¬ Y g) : RowW Y w' a c ps := by
  obtain ⟨g, h1, h2, h3, h4⟩ := h.at_
  exact ⟨⟨g, h1, Nat.lt_of_lt_of_le h2 hf.size, h3, fun j x hx i u hu => (hf.cell ⟨g, j * 5 + i, none⟩ h2 (fun hQ => hq g h2 hQ h3)).trans (h4 j x hx i u hu)⟩, h.pos, h.le, h.cap, fun x hx => (h.each x hx).fr hf hq⟩
theorem RowW.mono {Y Y' : Nat → Prop} {w : World} {a : Option Addr} {c : Nat} {ps : List Pc} (h : RowW Y w a c ps) (hy : ∀ g, Y g → Y' g) : RowW Y' w a c ps := by
  obtain ⟨g, h1, h2, h3, h4⟩ := h.at_
  exact ⟨⟨g, h1, h2, hy g h3, h4⟩, h.pos, h.le, h.cap, fun x hx => (h.each x hx).mono hy⟩
def wval (wr : Nat → Option Addr × Nat) (q : Nat) (ps : List Pc) : Value := .slice (wr q).1 ps.length (wr q).2
/-- The capacity of the row of what is awaited. -/
noncomputable def capN (w : World) (p nb n mb wb : Nat) : Nat := Classical.epsilon fun c => Stc w p [.slice (some ⟨nb, 0, none⟩) n c, .map (some mb), .map (some wb)]
/-- Streams: the struct p, the row of what is awaited nb, the pieces' map mb, the map of those that wait wb; all other blocks are of Y. -/
structure SmW (w : World) (p nb mb wb : Nat) (wr : Nat → Option Addr × Nat) (Y : Nat → Prop) (s : SmS) : Prop where
  sx : ∃ c, (s.nx.length ≤ c ∧ c ≤ maxLen) ∧ Stc w p [.slice (some ⟨nb, 0, none⟩) s.nx.length c, .map (some mb), .map (some wb)]
  nx : ∀ i, i < s.nx.length → w.cell? ⟨nb, i, none⟩ = some (.int .u16 (s.nx.getD i 0 : Nat))
  nf : ∀ i, w.frozen? ⟨nb, i, none⟩ = false
  nl : nb < w.heap.size
  n1 : 1 ≤ s.nx.length
  n8 : s.nx.length ≤ 8
  nv : ∀ i, s.nx.getD i 0 < 65536
  mp : Mp ipV IpK w mb s.D.length (fun q => (lookD s.D q).map Pc.val)
  wm : Mp tuV IpK w wb s.W.length (fun q => (lookD s.W q).map (wval wr q))
  ds : ∀ y ∈ s.D, IpK y.1 ∧ PcW Y w y.2
  ws : ∀ y ∈ s.W, IpK y.1 ∧ RowW Y w (wr y.1).1 (wr y.1).2 y.2
  sd : Srt s.D
  sw : Srt s.W
  ne : p ≠ nb ∧ p ≠ mb ∧ p ≠ wb ∧ nb ≠ mb ∧ nb ≠ wb ∧ mb ≠ wb
  yx : ∀ g, Y g → g ≠ p ∧ g ≠ nb ∧ g ≠ mb ∧ g ≠ wb
  yl : ∀ g, Y g → g < w.heap.size
  held : s.heldN ≤ 128
  dn : ∀ y ∈ s.D, y.2.st < s.nx.length
section
variable {w w' : World} {p nb mb wb : Nat} {wr : Nat → Option Addr × Nat} {Y : Nat → Prop} {s : SmS}
/-- The struct: the row's capacity is whatever it is. -/
theorem SmW.st (h : SmW w p nb mb wb wr Y s) : Stc w p [.slice (some ⟨nb, 0, none⟩) s.nx.length (capN w p nb s.nx.length mb wb), .map (some mb), .map (some wb)] := Classical.epsilon_spec (p := fun c => Stc w p [.slice (some ⟨nb, 0, none⟩) s.nx.length c, .map (some mb), .map (some wb)]) (by obtain ⟨c, _, h1⟩ := h.sx; exact ⟨c, h1⟩)
/-- Other blocks are turned: streams stay. -/
theorem SmW.fr {Q : Nat → Prop} (h : SmW w p nb mb wb wr Y s) (hf : Fr Q w w') (hq : ∀ g, g < w.heap.size → Q g → ¬ Y g ∧ g ≠ p ∧ g ≠ nb ∧ g ≠ mb ∧ g ≠ wb) : SmW w' p nb mb wb wr Y s := by
  have hn : ¬ Q nb := fun e => (hq nb h.nl e).2.2.1 rfl
  obtain ⟨cN, hcN, hsN⟩ := h.sx
  refine ⟨⟨cN, hcN, hsN.fr hf (fun e => (hq p h.st.lt e).2.1 rfl)⟩, fun i hi => (hf.cell ⟨nb, i, none⟩ h.nl hn).trans (h.nx i hi), fun i => (hf.frozen ⟨nb, i, none⟩ h.nl hn).trans (h.nf i), Nat.lt_of_lt_of_le h.nl hf.size, h.n1, h.n8, h.nv, ?_, ?_, ?_, ?_, h.sd, h.sw, h.ne, h.yx, fun g hg => Nat.lt_of_lt_of_le (h.yl g hg) hf.size, h.held, h.dn⟩
  · exact h.mp.fr hf (fun e => (hq mb h.mp.lt e).2.2.2.1 rfl)
  · exact h.wm.fr hf (fun e => (hq wb h.wm.lt e).2.2.2.2 rfl)
  · exact fun y hy => ⟨(h.ds y hy).1, (h.ds y hy).2.fr hf (fun g hg hQ => (hq g hg hQ).1)⟩
  · exact fun y hy => ⟨(h.ws y hy).1, (h.ws y hy).2.fr hf (fun g hg hQ => (hq g hg hQ).1)⟩
theorem SmW.below (h : SmW w p nb mb wb wr Y s) (hb : Below w.heap.size w w') : SmW w' p nb mb wb wr Y s := h.fr (Q := fun _ => False) (Fr.of_below hb) (fun _ _ e => e.elim)
/-- More blocks of Y. -/
theorem SmW.mono {Y' : Nat → Prop} (h : SmW w p nb mb wb wr Y s) (hy : ∀ g, Y g → Y' g) (hx : ∀ g, Y' g → g ≠ p ∧ g ≠ nb ∧ g ≠ mb ∧ g ≠ wb) (hl : ∀ g, Y' g → g < w.heap.size) : SmW w p nb mb wb wr Y' s :=
  ⟨h.sx, h.nx, h.nf, h.nl, h.n1, h.n8, h.nv, h.mp, h.wm, fun y hy2 => ⟨(h.ds y hy2).1, (h.ds y hy2).2.mono hy⟩, fun y hy2 => ⟨(h.ws y hy2).1, (h.ws y hy2).2.mono hy⟩, h.sd, h.sw, h.ne, hx, hl, h.held, h.dn⟩
theorem SmW.pcOk (h : SmW w p nb mb wb wr Y s) (t : Nat) : PcOk (pcAt s.D t) := by
  unfold pcAt
  cases e : lookD s.D t with
  | none => exact ⟨by decide, by decide, by decide, by decide, by decide⟩
  | some x => exact (h.ds _ (lookD_mem e)).2.ok
/-- 'v, ok := s.pieces[t]', 's.pieces[t]'. -/
theorem SmW.look (h : SmW w p nb mb wb wr Y s) (hb : Below w.heap.size w w') (t : Nat) (ht : t < 4294967296) (b : Bool) :
    (Instr.lookup 73 (.map (some mb)) (.int .u32 (t : Nat)) b).run Try.prog w' = .ok (if b then .tuple #[(pcAt s.D t).val, .bool (lookD s.D t).isSome] else (pcAt s.D t).val) w' := by
  have := (h.mp.below hb).look ipKE b Try.underlying73 (zero_pc w') (q := t) ht
  rw [show ipV t = .int .u32 (t : Nat) from rfl] at this
  rw [this]
  unfold pcAt
  cases lookD s.D t <;> rfl
/-- How many pieces, and messages that wait. -/
theorem SmW.lenD (h : SmW w p nb mb wb wr Y s) (hb : Below w.heap.size w w') (ty : TypeId) : (Builtin.len_ #[73] ty #[.map (some mb)]).run Try.prog w' = .ok (.int .i64 (s.D.length : Nat)) w' := by
  obtain ⟨es, c, h1, h2, _⟩ := (h.mp.below hb).tight (f := fun _ => Pc.val) ipKE.inj h.sd (fun y hy => (h.ds y hy).1)
  simp [Builtin.len_, run_underlying Try.underlying73, MapKept.run_getObj_map h1, Result.andThen, goInt, h2]
theorem SmW.lenW (h : SmW w p nb mb wb wr Y s) : s.W.length ≤ 128 := by
  have h1 := h.held
  have h2 : ∀ (W : List (Nat × List Pc)), (∀ y ∈ W, 0 < y.2.length) → W.length ≤ sumD List.length W := by
    intro W
    induction W with
    | nil => intro _; exact Nat.le_refl _
    | cons y W ih =>
      intro hw
      have := ih (fun z hz => hw z (List.mem_cons_of_mem _ hz))
      have := hw y List.mem_cons_self
      show W.length + 1 ≤ y.2.length + sumD List.length W
      omega
  have := h2 s.W (fun y hy => (h.ws y hy).2.pos)
  unfold SmS.heldN at h1
  omega
theorem SmW.lenDle (h : SmW w p nb mb wb wr Y s) : s.D.length ≤ 128 := by
  have h1 := h.held
  unfold SmS.heldN at h1
  omega
end
end Go.Proofs.Ytjaheelgcjafcaa
namespace Go.Proofs.Ytjaheelgcjafcaa
open Go.RowKit
theorem byP_take {ps : List Pc} {i : Nat} {x : Pc} (h : ps[i]? = some x) : byP (ps.take (i + 1)) = byP (ps.take i) + x.zs.length := by
  unfold byP
  rw [List.take_add_one, h]
  simp
theorem byP_le : ∀ (ps : List Pc), (∀ x ∈ ps, x.zs.length ≤ 1452) → byP ps ≤ 1452 * ps.length
  | [], _ => Nat.le_refl _
  | x :: ps, h => by
    have h1 := byP_le ps (fun y hy => h y (List.mem_cons_of_mem _ hy))
    have h2 := h x List.mem_cons_self
    unfold byP at h1 ⊢
    simp only [List.map_cons, List.sum_cons, List.length_cons]
    omega
theorem byP_take_le {ps : List Pc} (h : ∀ x ∈ ps, x.zs.length ≤ 1452) (i : Nat) : byP (ps.take i) ≤ 1452 * ps.length := by
  refine Nat.le_trans (byP_le _ (fun x hx => h x (List.mem_of_mem_take hx))) ?_
  rw [List.length_take]
  exact Nat.mul_le_mul_left _ (by omega)
theorem RowW.small {Y : Nat → Prop} {w : World} {a : Option Addr} {c : Nat} {ps : List Pc} (h : RowW Y w a c ps) : ∀ x ∈ ps, x.zs.length ≤ 1452 := fun x hx => by
  rw [(h.each x hx).len]
  exact (h.each x hx).ok.n1
set_option maxRecDepth 100000 in
set_option maxHeartbeats 2000000 in
theorem bytesOf_any {Y : Nat → Prop} {w : World} {a : Option Addr} {c : Nat} {ps : List Pc} (h : RowW Y w a c ps) :
    Calls Try.prog 29 #[.slice a ps.length c] w fun e w' => e = .returned (.int .i64 (byP ps : Nat)) ∧ Below w.heap.size w w' := by
  have hsm := byP_take_le h.small
  have hle := h.le
  have hcap := h.cap
  obtain ⟨g, rfl, hg, _, hcell⟩ := h.at_
  have HE := (show Hid _ from h.each)
  have HC := (show Hid _ from hcell)
  obtain ⟨n, hn⟩ : ∃ n, n = ps.length := ⟨_, rfl⟩
  rw [← hn] at hsm hle hcap ⊢
  have HN := (show Hid _ from hn)
  clear hcell h hn
  go_enter Try.func29, Try.ntmps29
  go_wp2
  go_loopw [3, 8] (fun u3 u8 wr => ∃ i : Nat, i ≤ n ∧ u8 = .int .i64 (i : Nat) ∧ u3 = .int .i64 (byP (ps.take i) : Nat) ∧ Below w.heap.size w wr) (fun _ u8 _ => n - (intOf u8).toNat)
  case atStart => exact ⟨0, by omega, rfl, rfl, Below.refl _ _⟩
  case round =>
    obtain ⟨i, hi, rfl, rfl, hb⟩ := hrel
    have hsi := hsm i
    by_cases hlt : i < n
    · have hlt1 : (i : Int) < (n : Int) := by omega
      obtain ⟨x, hx⟩ : ∃ x, ps[i]? = some x := ⟨_, List.getElem?_eq_getElem (by have := HN.out; omega)⟩
      have hxw := HE.out x (List.mem_of_getElem? hx)
      have hn1 := hxw.ok.n1
      have HT : Hid (byP (ps.take (i + 1)) = byP (ps.take i) + x.n) := by show _ = _; rw [byP_take hx, hxw.len]
      have hc := fun k u (hu : x.v[k]? = some u) => (hb.cell (p := ⟨g, i * 5 + k, none⟩) hg).trans (HC.out i x hx k u hu)
      have h0 := hc 0 _ rfl
      have h1 := hc 1 _ rfl
      have h2 := hc 2 _ rfl
      have h3 := hc 3 _ rfl
      have h4 := hc 4 _ rfl
      rw [Nat.add_zero] at h0
      clear hc hxw hx
      obtain ⟨fl, st, ss, pp, a1, n1, c1, zs⟩ := x
      dsimp only at h0 h1 h2 h3 h4 HT hn1
      generalize byP (ps.take i) = m at *
      have HB := (show Hid _ from hb)
      clear hb
      go_wp2
      go_roundw
      case rel => exact ⟨i + 1, by omega, by go_num, by rw [HT.out]; go_num, by first | exact HB.out.alloc HB.out.size _ | exact HB.out⟩
      case measure => simp [intOf]; omega
    · obtain rfl : i = n := by omega
      have HB := (show Hid _ from hb)
      clear hb
      go_wp2
      go_ret
      have e : ps.take i = ps := List.take_of_length_le (by have := HN.out; omega)
      exact ⟨by rw [e]; rfl, HB.out⟩
end Go.Proofs.Ytjaheelgcjafcaa
namespace Go.Proofs.Ytjaheelgcjafcaa
open Go.RowKit
theorem Stc.there {w : World} {q : Nat} {cs : List Value} (h : Stc w q cs) : w.there q 0 cs.length := fun j hj => by
  rw [Nat.zero_add]
  exact ⟨by rw [h.cell j _ (List.getElem?_eq_getElem hj)]; rfl, h.free j⟩
theorem Stc.set {w : World} {q : Nat} {cs : List Value} (h : Stc w q cs) (j : Nat) (u : Value) : Stc (w.setCell ⟨q, j, none⟩ u) q (cs.set j u) := by
  refine ⟨by simp [World.setCell]; exact h.lt, fun i v hv => ?_, fun i => by rw [World.frozen?_setCell]; exact h.free i⟩
  rw [List.getElem?_set] at hv
  split at hv
  · rename_i e
    subst e
    split at hv
    · rename_i hl
      injection hv with hv
      subst hv
      exact World.cell?_setCell_same' _ _ _ (by rw [h.cell j _ (List.getElem?_eq_getElem hl)]; rfl)
    · cases hv
  · rename_i e
    rw [World.cell?_setCell_other _ _ _ _ (by intro e2; injection e2 with _ e3; exact e e3)]
    exact h.cell i v hv
theorem Stc.other {w : World} {q : Nat} {cs : List Value} (h : Stc w q cs) (q2 j : Nat) (u : Value) (hne : q2 ≠ q) : Stc (w.setCell ⟨q2, j, none⟩ u) q cs :=
  h.fr (Fr.setCell (fun b => b = q2) _ _ _ rfl) (fun e => hne e.symm)
theorem fr_setCellsX (b : Nat) : ∀ (vs : List Value) (o : Nat) (w : World), Fr (fun k => k = b) w (w.setCells b o vs) := by
  intro vs
  induction vs with
  | nil => intro o w; exact Fr.refl _ _
  | cons v vs ih =>
    intro o w
    exact (Fr.setCell (fun k => k = b) w ⟨b, o, none⟩ v rfl).trans (ih (o + 1) (w.setCell ⟨b, o, none⟩ v))
theorem frozen_setCellsX (b : Nat) : ∀ (vs : List Value) (o : Nat) (w : World) (x : Addr), (w.setCells b o vs).frozen? x = w.frozen? x := by
  intro vs
  induction vs with
  | nil => intro o w x; rfl
  | cons v vs ih =>
    intro o w x
    exact (ih (o + 1) (w.setCell ⟨b, o, none⟩ v) x).trans (World.frozen?_setCell _ _ _ _)
theorem Stc.put {w : World} {q : Nat} {cs : List Value} (h : Stc w q cs) (vs : List Value) (hl : vs.length = cs.length) : Stc (w.setCells q 0 vs) q vs := by
  refine ⟨Nat.lt_of_lt_of_le h.lt (fr_setCellsX q vs 0 w).size, fun i v hv => ?_, fun i => by rw [frozen_setCellsX]; exact h.free i⟩
  have := World.rangeAt_setCells_same w q 0 vs (by rw [hl]; exact h.there) i v hv
  rwa [Nat.zero_add] at this
/-- ia: the operation that makes it, is: the one that stores. -/
structure RgC (ia is_ : Nat) (w : World) (z cs : List Value) (θ : Nat) (l : Nat → Bool) (W : World) : Prop where
  a1 : l is_ = true → Stc W θ cs
  a2 : l is_ = false → l ia = true → Stc W θ z
  a3 : l ia = true → w.heap.size ≤ θ ∧ θ < W.heap.size
  a4 : Below w.heap.size w W
section
variable {ia is_ : Nat} {w : World} {z cs : List Value} {θ : Nat} {l : Nat → Bool} {W : World}
theorem updL_neC {l : Nat → Bool} {i j : Nat} (h : j ≠ i) : updL l i j = l j := if_neg h
theorem updL_eqC {l : Nat → Bool} {i : Nat} : updL l i i = true := if_pos rfl
theorem RgC.start (h : Below w.heap.size w W) : RgC ia is_ w z cs θ (fun _ => false) W := ⟨fun e => (by cases e), fun _ e => (by cases e), fun e => (by cases e), h⟩
theorem RgC.call {W' : World} (h : RgC ia is_ w z cs θ l W) (hb : Below W.heap.size W W') (i : Nat) (h1 : ia ≠ i) (h2 : is_ ≠ i) : RgC ia is_ w z cs θ (updL l i) W' :=
  ⟨by rw [updL_neC h2]; exact fun e => (h.a1 e).below hb, by rw [updL_neC h2, updL_neC h1]; exact fun e1 e2 => (h.a2 e1 e2).below hb, by rw [updL_neC h1]; exact fun e => ⟨(h.a3 e).1, Nat.lt_of_lt_of_le (h.a3 e).2 hb.size⟩, h.a4.trans (hb.mono h.a4.size)⟩
theorem RgC.other (h : RgC ia is_ w z cs θ l W) (i : Nat) (h1 : ia ≠ i) (h2 : is_ ≠ i) : RgC ia is_ w z cs θ (updL l i) W := h.call (Below.refl _ _) i h1 h2
theorem RgC.alloc (h : RgC ia is_ w z cs θ l W) (hs : l is_ = false) (hne : is_ ≠ ia) (T : TypeId) (zA : Array Value) (hz : zA = z.toArray) : RgC ia is_ w z cs W.heap.size (updL l ia) (W.alloc (.cells zA T)) := by
  subst hz
  refine ⟨by rw [updL_neC hne, hs]; exact fun e => (by cases e), fun _ _ => Stc.new W z T _ rfl, fun _ => ⟨h.a4.size, by simp⟩, h.a4.trans (((Below.refl _ _).alloc (Nat.le_refl _) _).mono h.a4.size)⟩
theorem RgC.store (h : RgC ia is_ w z cs θ l W) (ha : l ia = true) (hs : l is_ = false) (hl : cs.length = z.length) : W.there θ 0 cs.length ∧ RgC ia is_ w z cs θ (updL l is_) (W.setCells θ 0 cs) := by
  have s := h.a2 hs ha
  have hf := fr_setCellsX θ cs 0 W
  refine ⟨by rw [hl]; exact s.there, ⟨fun _ => s.put cs hl, fun e => (by rw [updL_eqC] at e; cases e), fun _ => ⟨(h.a3 ha).1, Nat.lt_of_lt_of_le (h.a3 ha).2 hf.size⟩, h.a4.trans (hf.below _ h.a4.size (fun k hk => by rw [hk]; exact (h.a3 ha).1))⟩⟩
end
end Go.Proofs.Ytjaheelgcjafcaa
