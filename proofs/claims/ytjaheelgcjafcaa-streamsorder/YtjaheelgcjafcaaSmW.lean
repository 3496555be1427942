/- streams as they lie in memory. -/
import Derived.Test.YtjaheelgcjafcaaMpD
import Derived.Test.YtjaheelgcjafcaaMpIt
import Derived.Test.YtjaheelgcjafcaaSmT
import Derived.Test.YtjaheelgcjafcaaOwnG
import Derived.Test.YtjaheelgcjafcaaStN
import Derived.Test.YtjaheelgcjafcaaOwn
namespace Go.Proofs.Ytjaheelgcjafcaa
open Go.RowKit Go.MapKept Go.Maps
def ipV (q : Nat) : Value := .int .u32 (q : Nat)
def IpK (q : Nat) : Prop := q < 4294967296
theorem ipKE : KE Try.prog 30 ipV IpK where
  keyed := int_keyed Try.underlying30
  ok q h := ⟨_, keyOf_int_mk Try.underlying30 (by unfold IpK at h; simp [Lit.wf, IntKind.min, IntKind.max, IntKind.signed, IntKind.bits]; omega)⟩
  inj q q' _ _ h := by simp [ipV] at h; omega
theorem slaid : laidOutB Try.prog = true := by kernel_rfl
/-- A stream and an SSN as a key. -/
def tuV (q : Nat) : Value := .agg #[.int .u16 ((q / 65536 : Nat) : Int), .int .u16 ((q % 65536 : Nat) : Int)]
theorem kcells_u16 : Try.prog.cellsOf 42 = 1 := by kernel_rfl
theorem kcells_tu : Try.prog.cellsOf 86 = 2 := by kernel_rfl
theorem ktypes : ∃ n, Try.prog.types.size + 1 = n + 1 + 1 := ⟨Try.prog.types.size - 1, by have : 0 < Try.prog.types.size := of_decide_eq_true (by kernel_rfl); omega⟩
theorem klit_16 (d x : Nat) (h : x < 65536) : Try.prog.keyLits (d + 1) 42 [.int .u16 (x : Nat)] = some [Lit.int .u16 (x : Nat)] := by
  unfold Program.keyLits
  rw [Try.underlying42]
  simp [Lit.wf, IntKind.min, IntKind.max, IntKind.signed, IntKind.bits]
  omega
theorem tu_ok (q : Nat) (h : IpK q) : ∃ l, keyOf Try.prog 86 (tuV q) = some l := by
  obtain ⟨n, hn⟩ := ktypes
  have h1 : q / 65536 < 65536 := by unfold IpK at h; omega
  have h2 : q % 65536 < 65536 := by omega
  unfold tuV
  generalize q / 65536 = a at *
  generalize q % 65536 = b at *
  have hk : Try.prog.keyType 86 = true := by kernel_rfl
  have hf : (Value.agg #[.int .u16 (a : Nat), .int .u16 (b : Nat)]).formed Try.prog 86 = true := by
    unfold Value.formed
    dsimp only
    rw [Try.underlying86]
    simp [kcells_tu]
  have hl : Try.prog.keyLits (n + 1 + 1) 86 (Value.agg #[.int .u16 (a : Nat), .int .u16 (b : Nat)]).cells.toList = some [Lit.int .u16 (a : Nat), Lit.int .u16 (b : Nat)] := by
    unfold Program.keyLits
    rw [Try.underlying86]
    simp [Value.cells, kcells_tu, kcells_u16, klit_16 _ _ h1, klit_16 _ _ h2]
  refine ⟨.string (keyBytes [Lit.int .u16 (a : Nat), Lit.int .u16 (b : Nat)]), ?_⟩
  unfold keyOf
  rw [Try.underlying86]
  dsimp only
  rw [hk, hf, hn, hl]
  rfl
theorem tuKE : KE Try.prog 86 tuV IpK where
  keyed := Keyed.of_law (deep_law_laid slaid (m := 2) (by omega) (of_decide_eq_true (by kernel_rfl)) (by kernel_rfl) (by kernel_rfl))
  ok := tu_ok
  inj q q' _ _ h := by
    simp [tuV] at h
    omega
theorem tu_key (st ss : Nat) (h : ss < 65536) : tuV (tkey st ss) = .agg #[.int .u16 (st : Nat), .int .u16 (ss : Nat)] := by
  unfold tuV tkey
  rw [show (st * 65536 + ss) / 65536 = st by omega, show (st * 65536 + ss) % 65536 = ss by omega]
theorem tkey_lt {st ss : Nat} (h1 : st < 65536) (h2 : ss < 65536) : IpK (tkey st ss) := by unfold IpK tkey; omega
def Pc.val (p : Pc) : Value := .agg #[.int .u8 (p.fl : Nat), .int .u16 (p.st : Nat), .int .u16 (p.ss : Nat), .int .u32 (p.pp : Nat), .slice p.a p.n p.c]
theorem zero_pc (w : World) : (zeroValue 79).run Try.prog w = .ok zeroPc.val w := by kernel_rfl
theorem zero_pcs (w : World) : (zeroValue 83).run Try.prog w = .ok (.slice none 0 0) w := by kernel_rfl
structure PcOk (x : Pc) : Prop where
  fl : x.fl < 256
  st : x.st < 8
  ss : x.ss < 65536
  pp : x.pp < 4294967296
  n1 : x.n ≤ 1452
/-- A piece as it lies: its bytes in a block of Y. -/
structure PcW (Y : Nat → Prop) (w : World) (x : Pc) : Prop where
  ok : PcOk x
  sl : Sl w x.a x.n x.c x.zs
  ap : ∀ g off, x.a = some ⟨g, off, none⟩ → Y g
theorem Sl.frA {w w' : World} {a : Option Addr} {n c : Nat} {zs : List Nat} {Q : Nat → Prop} (h : Sl w a n c zs) (hf : Fr Q w w') (hq : ∀ b off, a = some ⟨b, off, none⟩ → b < w.heap.size → ¬ Q b) : Sl w' a n c zs := by
  obtain ⟨h1, h2, h3, hsm, hnz, h4, h5⟩ := h
  refine ⟨h1, h2, h3, hsm, hnz, h4, ?_⟩
  rcases h5 with h5 | ⟨b, off, rfl, hlt, hc⟩
  · exact .inl h5
  · exact .inr ⟨b, off, rfl, Nat.lt_of_lt_of_le hlt hf.size, fun i hi => (hf.cell ⟨b, off + i, none⟩ hlt (hq b off rfl hlt)).trans (hc i hi)⟩
theorem PcW.fr {Y Q : Nat → Prop} {w w' : World} {x : Pc} (h : PcW Y w x) (hf : Fr Q w w') (hq : ∀ g, g < w.heap.size → Q g → ¬ Y g) : PcW Y w' x :=
  ⟨h.ok, h.sl.frA hf (fun b off e hl hQ => hq b hl hQ (h.ap b off e)), h.ap⟩
theorem PcW.mono {Y Y' : Nat → Prop} {w : World} {x : Pc} (h : PcW Y w x) (hy : ∀ g, Y g → Y' g) : PcW Y' w x := ⟨h.ok, h.sl, fun g off e => hy g (h.ap g off e)⟩
theorem PcW.len {Y : Nat → Prop} {w : World} {x : Pc} (h : PcW Y w x) : x.zs.length = x.n := h.sl.len
/-- A row of pieces as it lies. -/
structure RowW (Y : Nat → Prop) (w : World) (a : Option Addr) (c : Nat) (ps : List Pc) : Prop where
  at_ : ∃ g, a = some ⟨g, 0, none⟩ ∧ g < w.heap.size ∧ Y g ∧ ∀ (j : Nat) (x : Pc), ps[j]? = some x → ∀ (i : Nat) u, x.v[i]? = some u → w.cell? ⟨g, j * 5 + i, none⟩ = some u
  pos : 0 < ps.length
  le : ps.length ≤ 128
  cap : ps.length ≤ c ∧ c ≤ maxLen
  each : ∀ x ∈ ps, PcW Y w x
theorem RowW.fr {Y Q : Nat → Prop} {w w' : World} {a : Option Addr} {c : Nat} {ps : List Pc} (h : RowW Y w a c ps) (hf : Fr Q w w') (hq : ∀ g, g < w.heap.size → Q g → ¬ Y g) : RowW Y w' a c ps := by
  obtain ⟨g, h1, h2, h3, h4⟩ := h.at_
  exact ⟨⟨g, h1, Nat.lt_of_lt_of_le h2 hf.size, h3, fun j x hx i u hu => (hf.cell ⟨g, j * 5 + i, none⟩ h2 (fun hQ => hq g h2 hQ h3)).trans (h4 j x hx i u hu)⟩, h.pos, h.le, h.cap, fun x hx => (h.each x hx).fr hf hq⟩
theorem RowW.mono {Y Y' : Nat → Prop} {w : World} {a : Option Addr} {c : Nat} {ps : List Pc} (h : RowW Y w a c ps) (hy : ∀ g, Y g → Y' g) : RowW Y' w a c ps := by
  obtain ⟨g, h1, h2, h3, h4⟩ := h.at_
  exact ⟨⟨g, h1, h2, hy g h3, h4⟩, h.pos, h.le, h.cap, fun x hx => (h.each x hx).mono hy⟩
def wval (wr : Nat → Option Addr × Nat) (q : Nat) (ps : List Pc) : Value := .slice (wr q).1 ps.length (wr q).2
/-- Streams: the struct p, the row of what is awaited nb, the pieces' map mb, the map of those that wait wb; all other blocks are of Y. -/
structure SmW (w : World) (p nb mb wb : Nat) (wr : Nat → Option Addr × Nat) (Y : Nat → Prop) (s : SmS) : Prop where
  st : Stc w p [.slice (some ⟨nb, 0, none⟩) s.nx.length s.nx.length, .map (some mb), .map (some wb)]
  nx : ∀ i, i < s.nx.length → w.cell? ⟨nb, i, none⟩ = some (.int .u16 (s.nx.getD i 0 : Nat))
  nf : ∀ i, w.frozen? ⟨nb, i, none⟩ = false
  nl : nb < w.heap.size
  n1 : 1 ≤ s.nx.length
  n8 : s.nx.length ≤ 8
  nv : ∀ i, s.nx.getD i 0 < 65536
  mp : Mp ipV IpK w mb s.D.length (fun q => (lookD s.D q).map Pc.val)
  wm : Mp tuV IpK w wb s.W.length (fun q => (lookD s.W q).map (wval wr q))
  ds : ∀ y ∈ s.D, IpK y.1 ∧ PcW Y w y.2
  ws : ∀ y ∈ s.W, IpK y.1 ∧ RowW Y w (wr y.1).1 (wr y.1).2 y.2
  sd : Srt s.D
  sw : Srt s.W
  ne : p ≠ nb ∧ p ≠ mb ∧ p ≠ wb ∧ nb ≠ mb ∧ nb ≠ wb ∧ mb ≠ wb
  yx : ∀ g, Y g → g ≠ p ∧ g ≠ nb ∧ g ≠ mb ∧ g ≠ wb
  yl : ∀ g, Y g → g < w.heap.size
  held : s.heldN ≤ 128
  dn : ∀ y ∈ s.D, y.2.st < s.nx.length
section
variable {w w' : World} {p nb mb wb : Nat} {wr : Nat → Option Addr × Nat} {Y : Nat → Prop} {s : SmS}
/-- Other blocks are turned: streams stay. -/
theorem SmW.fr {Q : Nat → Prop} (h : SmW w p nb mb wb wr Y s) (hf : Fr Q w w') (hq : ∀ g, g < w.heap.size → Q g → ¬ Y g ∧ g ≠ p ∧ g ≠ nb ∧ g ≠ mb ∧ g ≠ wb) : SmW w' p nb mb wb wr Y s := by
  have hn : ¬ Q nb := fun e => (hq nb h.nl e).2.2.1 rfl
  refine ⟨h.st.fr hf (fun e => (hq p h.st.lt e).2.1 rfl), fun i hi => (hf.cell ⟨nb, i, none⟩ h.nl hn).trans (h.nx i hi), fun i => (hf.frozen ⟨nb, i, none⟩ h.nl hn).trans (h.nf i), Nat.lt_of_lt_of_le h.nl hf.size, h.n1, h.n8, h.nv, ?_, ?_, ?_, ?_, h.sd, h.sw, h.ne, h.yx, fun g hg => Nat.lt_of_lt_of_le (h.yl g hg) hf.size, h.held, h.dn⟩
  · exact h.mp.fr hf (fun e => (hq mb h.mp.lt e).2.2.2.1 rfl)
  · exact h.wm.fr hf (fun e => (hq wb h.wm.lt e).2.2.2.2 rfl)
  · exact fun y hy => ⟨(h.ds y hy).1, (h.ds y hy).2.fr hf (fun g hg hQ => (hq g hg hQ).1)⟩
  · exact fun y hy => ⟨(h.ws y hy).1, (h.ws y hy).2.fr hf (fun g hg hQ => (hq g hg hQ).1)⟩
theorem SmW.below (h : SmW w p nb mb wb wr Y s) (hb : Below w.heap.size w w') : SmW w' p nb mb wb wr Y s := h.fr (Q := fun _ => False) (Fr.of_below hb) (fun _ _ e => e.elim)
/-- More blocks of Y. -/
theorem SmW.mono {Y' : Nat → Prop} (h : SmW w p nb mb wb wr Y s) (hy : ∀ g, Y g → Y' g) (hx : ∀ g, Y' g → g ≠ p ∧ g ≠ nb ∧ g ≠ mb ∧ g ≠ wb) (hl : ∀ g, Y' g → g < w.heap.size) : SmW w p nb mb wb wr Y' s :=
  ⟨h.st, h.nx, h.nf, h.nl, h.n1, h.n8, h.nv, h.mp, h.wm, fun y hy2 => ⟨(h.ds y hy2).1, (h.ds y hy2).2.mono hy⟩, fun y hy2 => ⟨(h.ws y hy2).1, (h.ws y hy2).2.mono hy⟩, h.sd, h.sw, h.ne, hx, hl, h.held, h.dn⟩
theorem SmW.pcOk (h : SmW w p nb mb wb wr Y s) (t : Nat) : PcOk (pcAt s.D t) := by
  unfold pcAt
  cases e : lookD s.D t with
  | none => exact ⟨by decide, by decide, by decide, by decide, by decide⟩
  | some x => exact (h.ds _ (lookD_mem e)).2.ok
/-- 'v, ok := s.pieces[t]', 's.pieces[t]'. -/
theorem SmW.look (h : SmW w p nb mb wb wr Y s) (hb : Below w.heap.size w w') (t : Nat) (ht : t < 4294967296) (b : Bool) :
    (Instr.lookup 73 (.map (some mb)) (.int .u32 (t : Nat)) b).run Try.prog w' = .ok (if b then .tuple #[(pcAt s.D t).val, .bool (lookD s.D t).isSome] else (pcAt s.D t).val) w' := by
  have := (h.mp.below hb).look ipKE b Try.underlying73 (zero_pc w') (q := t) ht
  rw [show ipV t = .int .u32 (t : Nat) from rfl] at this
  rw [this]
  unfold pcAt
  cases lookD s.D t <;> rfl
/-- How many pieces, and messages that wait. -/
theorem SmW.lenD (h : SmW w p nb mb wb wr Y s) (hb : Below w.heap.size w w') (ty : TypeId) : (Builtin.len_ #[73] ty #[.map (some mb)]).run Try.prog w' = .ok (.int .i64 (s.D.length : Nat)) w' := by
  obtain ⟨es, c, h1, h2, _⟩ := (h.mp.below hb).tight (f := fun _ => Pc.val) ipKE.inj h.sd (fun y hy => (h.ds y hy).1)
  simp [Builtin.len_, run_underlying Try.underlying73, MapKept.run_getObj_map h1, Result.andThen, goInt, h2]
theorem SmW.lenW (h : SmW w p nb mb wb wr Y s) : s.W.length ≤ 128 := by
  have h1 := h.held
  have h2 : ∀ (W : List (Nat × List Pc)), (∀ y ∈ W, 0 < y.2.length) → W.length ≤ sumD List.length W := by
    intro W
    induction W with
    | nil => intro _; exact Nat.le_refl _
    | cons y W ih =>
      intro hw
      have := ih (fun z hz => hw z (List.mem_cons_of_mem _ hz))
      have := hw y List.mem_cons_self
      show W.length + 1 ≤ y.2.length + sumD List.length W
      omega
  have := h2 s.W (fun y hy => (h.ws y hy).2.pos)
  unfold SmS.heldN at h1
  omega
theorem SmW.lenDle (h : SmW w p nb mb wb wr Y s) : s.D.length ≤ 128 := by
  have h1 := h.held
  unfold SmS.heldN at h1
  omega
end
end Go.Proofs.Ytjaheelgcjafcaa
