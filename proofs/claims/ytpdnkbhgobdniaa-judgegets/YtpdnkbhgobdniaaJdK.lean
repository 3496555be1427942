/- judge: sides, contents and streams as keys of maps. -/
import Derived.Test.YtpdnkbhgobdniaaMp
import Derived.Test.YtpdnkbhgobdniaaStr
namespace Go.Proofs.Ytpdnkbhgobdniaa
open Go.RowKit Go.MapKept Go.Maps
theorem jlaid : laidOutB Try.prog = true := by kernel_rfl
abbrev Sd := Int × Nat × Nat
def sdV (q : Sd) : Value := .agg #[.int .i64 q.1, .int .u32 (q.2.1 : Nat), .int .u32 (q.2.2 : Nat)]
def SdK (q : Sd) : Prop := (Lit.int .i64 q.1).wf = true ∧ q.2.1 < 4294967296 ∧ q.2.2 < 4294967296
abbrev Cn := Nat × Nat × List Nat
def cnV (q : Cn) : Value := .agg #[.int .u16 (q.1 : Nat), .int .u32 (q.2.1 : Nat), .string (strOf q.2.2)]
def CnK (q : Cn) : Prop := q.1 < 65536 ∧ q.2.1 < 4294967296 ∧ (∀ i, q.2.2.getD i 0 < 256) ∧ q.2.2.length ≤ maxLen
def stV (q : Nat) : Value := .int .u16 (q : Nat)
def StK (q : Nat) : Prop := q < 65536
theorem kcells_int : Try.prog.cellsOf 3 = 1 := by kernel_rfl
theorem kcells_u16 : Try.prog.cellsOf 38 = 1 := by kernel_rfl
theorem kcells_u32 : Try.prog.cellsOf 29 = 1 := by kernel_rfl
theorem kcells_str : Try.prog.cellsOf 9 = 1 := by kernel_rfl
theorem kcells_sd : Try.prog.cellsOf 57 = 3 := by kernel_rfl
theorem kcells_cn : Try.prog.cellsOf 67 = 3 := by kernel_rfl
theorem ktypes : ∃ n, Try.prog.types.size + 1 = n + 1 + 1 := ⟨Try.prog.types.size - 1, by have : 0 < Try.prog.types.size := of_decide_eq_true (by kernel_rfl); omega⟩
theorem klit_i (d : Nat) (x : Int) (h : (Lit.int .i64 x).wf = true) : Try.prog.keyLits (d + 1) 3 [.int .i64 x] = some [Lit.int .i64 x] := by
  unfold Program.keyLits
  rw [Try.underlying3]
  simp [h]
theorem klit_16 (d x : Nat) (h : x < 65536) : Try.prog.keyLits (d + 1) 38 [.int .u16 (x : Nat)] = some [Lit.int .u16 (x : Nat)] := by
  unfold Program.keyLits
  rw [Try.underlying38]
  simp [Lit.wf, IntKind.min, IntKind.max, IntKind.signed, IntKind.bits]
  omega
theorem klit_32 (d x : Nat) (h : x < 4294967296) : Try.prog.keyLits (d + 1) 29 [.int .u32 (x : Nat)] = some [Lit.int .u32 (x : Nat)] := by
  unfold Program.keyLits
  rw [Try.underlying29]
  simp [Lit.wf, IntKind.min, IntKind.max, IntKind.signed, IntKind.bits]
  omega
theorem klit_s (d : Nat) (s : ByteArray) (h : s.size ≤ maxLen) : Try.prog.keyLits (d + 1) 9 [.string s] = some [Lit.string s.data.toList] := by
  unfold Program.keyLits
  rw [Try.underlying9]
  simp [h]
theorem strOf_size (zs : List Nat) : (strOf zs).size = zs.length := by
  unfold strOf ByteArray.size
  simp
theorem sd_ok (q : Sd) (h : SdK q) : ∃ l, keyOf Try.prog 57 (sdV q) = some l := by
  obtain ⟨n, hn⟩ := ktypes
  obtain ⟨h1, h2, h3⟩ := h
  have hk : Try.prog.keyType 57 = true := by kernel_rfl
  have hf : (sdV q).formed Try.prog 57 = true := by
    unfold Value.formed sdV
    dsimp only
    rw [Try.underlying57]
    simp [kcells_sd]
  have hl : Try.prog.keyLits (n + 1 + 1) 57 (sdV q).cells.toList = some [Lit.int .i64 q.1, Lit.int .u32 (q.2.1 : Nat), Lit.int .u32 (q.2.2 : Nat)] := by
    unfold Program.keyLits
    rw [Try.underlying57]
    simp [sdV, Value.cells, kcells_sd, kcells_int, kcells_u32, klit_i _ _ h1, klit_32 _ _ h2, klit_32 _ _ h3]
  refine ⟨.string (keyBytes [Lit.int .i64 q.1, Lit.int .u32 (q.2.1 : Nat), Lit.int .u32 (q.2.2 : Nat)]), ?_⟩
  unfold keyOf
  rw [Try.underlying57]
  dsimp only
  rw [hk, hf, hn, hl]
  rfl
theorem cn_ok (q : Cn) (h : CnK q) : ∃ l, keyOf Try.prog 67 (cnV q) = some l := by
  obtain ⟨n, hn⟩ := ktypes
  obtain ⟨h1, h2, h3, h4⟩ := h
  have hk : Try.prog.keyType 67 = true := by kernel_rfl
  have hf : (cnV q).formed Try.prog 67 = true := by
    unfold Value.formed cnV
    dsimp only
    rw [Try.underlying67]
    simp [kcells_cn]
  have hl : Try.prog.keyLits (n + 1 + 1) 67 (cnV q).cells.toList = some [Lit.int .u16 (q.1 : Nat), Lit.int .u32 (q.2.1 : Nat), Lit.string (strOf q.2.2).data.toList] := by
    unfold Program.keyLits
    rw [Try.underlying67]
    simp [cnV, Value.cells, kcells_cn, kcells_u16, kcells_u32, kcells_str, klit_16 _ _ h1, klit_32 _ _ h2, klit_s _ _ (show (strOf q.2.2).size ≤ maxLen by rw [strOf_size]; exact h4)]
  refine ⟨.string (keyBytes [Lit.int .u16 (q.1 : Nat), Lit.int .u32 (q.2.1 : Nat), Lit.string (strOf q.2.2).data.toList]), ?_⟩
  unfold keyOf
  rw [Try.underlying67]
  dsimp only
  rw [hk, hf, hn, hl]
  rfl
theorem sdKE : KE Try.prog 57 sdV SdK where
  keyed := Keyed.of_law (deep_law_laid jlaid (m := 3) (by omega) (of_decide_eq_true (by kernel_rfl)) (by kernel_rfl) (by kernel_rfl))
  ok := sd_ok
  inj q q' _ _ h := by
    obtain ⟨a, b, c⟩ := q
    obtain ⟨a', b', c'⟩ := q'
    simp [sdV] at h
    obtain ⟨h1, h2, h3⟩ := h
    obtain rfl : b = b' := by omega
    obtain rfl : c = c' := by omega
    subst h1
    rfl
theorem cnKE : KE Try.prog 67 cnV CnK where
  keyed := Keyed.of_law (deep_law_laid jlaid (m := 3) (by omega) (of_decide_eq_true (by kernel_rfl)) (by kernel_rfl) (by kernel_rfl))
  ok := cn_ok
  inj q q' h1 h2 h := by
    obtain ⟨a, b, c⟩ := q
    obtain ⟨a', b', c'⟩ := q'
    simp [cnV] at h
    obtain ⟨e1, e2, e3⟩ := h
    have e4 := strOf_inj h1.2.2.1 h2.2.2.1 e3
    dsimp only at e4
    obtain rfl : a = a' := by omega
    obtain rfl : b = b' := by omega
    subst e4
    rfl
theorem stKE : KE Try.prog 38 stV StK where
  keyed := int_keyed Try.underlying38
  ok q h := ⟨_, keyOf_int_mk Try.underlying38 (by unfold StK at h; simp [Lit.wf, IntKind.min, IntKind.max, IntKind.signed, IntKind.bits]; omega)⟩
  inj q q' _ _ h := by simp [stV] at h; omega
theorem zero_book (w : World) : (zeroValue 54).run Try.prog w = .ok (.agg #[.map none, .map none, .map none, .int .i64 0, .bool false, .bool false, .bool false]) w := by kernel_rfl
theorem zero_row (w : World) : (zeroValue 33).run Try.prog w = .ok (.slice none 0 0) w := by kernel_rfl
theorem zero_int (w : World) : (zeroValue 3).run Try.prog w = .ok (.int .i64 0) w := by kernel_rfl
end Go.Proofs.Ytpdnkbhgobdniaa
