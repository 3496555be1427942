/- Whatever marks: the walk of law19.JudgeOwn ends with true. -/
import Derived.Test.YtpdnkbhgobdniaaJdEr
import Derived.Test.YtpdnkbhgobdniaaJdEM
import Derived.Test.YtpdnkbhgobdniaaOwn
import Derived.Deep.DeepMust
namespace Go.Proofs.Ytpdnkbhgobdniaa
open Go.RowKit Go.MapKept Go.Maps
theorem mkLays : Lays Try.prog 22 44 10 72 Mk.vals where
  under := Try.underlying22
  info := ⟨.agg zmk.toArray, by kernel_rfl, rfl⟩
  pos := by omega
  len x := rfl
  one x u hu := by
    simp [Mk.vals] at hu
    rcases hu with rfl | rfl | rfl | rfl | rfl | rfl | rfl | rfl | rfl | rfl <;> rfl
/-- The marks that were copied: a row of its own, their bytes in blocks of their own. -/
structure Kp (w0 w : World) (a : Option Addr) (n c : Nat) (dk : List Mk) : Prop where
  own : OwnG 44 10 Mk.vals w w0.heap.size a n c dk
  wf : ∀ x ∈ dk, x.Wf w
  ap : ∀ x ∈ dk, x.mdN = 0 ∨ ∃ b off, x.mdA = some ⟨b, off, none⟩ ∧ b < w.heap.size ∧ (Value.slice a n c).ownBlock ≠ some b
theorem Sl.fr {w w' : World} {a : Option Addr} {n c : Nat} {zs : List Nat} {Q : Nat → Prop} (h : Sl w a n c zs) (hf : Fr Q w w') (hq : n = 0 ∨ ∃ b off, a = some ⟨b, off, none⟩ ∧ ¬ Q b) : Sl w' a n c zs := by
  refine ⟨h.len, h.cap, h.room, h.small, h.nz, h.bnd, ?_⟩
  rcases h.at_ with h0 | ⟨b, off, e, hlt, hc⟩
  · exact .inl h0
  · rcases hq with h0 | ⟨b', off', e', hn⟩
    · exact .inl h0
    · rw [e] at e'
      injection e' with e'
      injection e' with e1 e2
      subst e1
      exact .inr ⟨b, off, e, Nat.lt_of_lt_of_le hlt hf.size, fun i hi => (hf.cell ⟨b, off + i, none⟩ hlt hn).trans (hc i hi)⟩
theorem Mk.Wf.fr {w w' : World} {x : Mk} {Q : Nat → Prop} (h : x.Wf w) (hf : Fr Q w w') (hq : x.mdN = 0 ∨ ∃ b off, x.mdA = some ⟨b, off, none⟩ ∧ ¬ Q b) : x.Wf w' := by
  obtain ⟨h0, h1, h2, h3, h4, h5, h6, h7, h8⟩ := h
  exact ⟨h0, h1, h2, h3, h4, h5, h6, ⟨Sl.fr h7.1 hf hq, h7.2⟩, h8⟩
theorem Kp.below {w0 w w' : World} {a : Option Addr} {n c : Nat} {dk : List Mk} (h : Kp w0 w a n c dk) (hb : Below w.heap.size w w') : Kp w0 w' a n c dk := by
  have hf : Fr (fun _ => False) w w' := Fr.of_below hb
  refine ⟨h.own.below hb, fun x hx => (h.wf x hx).fr hf ?_, fun x hx => ?_⟩
  · rcases h.ap x hx with h0 | ⟨b, off, e, _, _⟩
    · exact .inl h0
    · exact .inr ⟨b, off, e, fun h => h⟩
  · rcases h.ap x hx with h0 | ⟨b, off, e, hl, hn⟩
    · exact .inl h0
    · exact .inr ⟨b, off, e, Nat.lt_of_lt_of_le hl hb.size, hn⟩
/-- One more. -/
theorem Kp.app {w0 w w' : World} {a : Option Addr} {n c : Nat} {dk : List Mk} (h : Kp w0 w a n c dk) (x : Mk) (hx : x.Wf w) (hxb : x.mdN = 0 ∨ ∃ b off, x.mdA = some ⟨b, off, none⟩ ∧ b < w.heap.size ∧ (Value.slice a n c).ownBlock ≠ some b) {g c' : Nat} (ho : OwnG 44 10 Mk.vals w' w0.heap.size (some ⟨g, 0, none⟩) (n + 1) c' (dk ++ [x])) (hg : w.grownBy w' (Value.slice a n c).ownBlock) (hl : (Value.slice a n c).ownBlock = some g ∨ g = w.heap.size) : Kp w0 w' (some ⟨g, 0, none⟩) (n + 1) c' (dk ++ [x]) := by
  have hf : Fr (fun b => (Value.slice a n c).ownBlock = some b) w w' := Fr.grown hg (fun k hk => hk)
  have hap : ∀ y ∈ dk ++ [x], y.mdN = 0 ∨ ∃ b off, y.mdA = some ⟨b, off, none⟩ ∧ b < w.heap.size ∧ (Value.slice a n c).ownBlock ≠ some b := by
    intro y hy
    rcases List.mem_append.1 hy with h1 | h1
    · exact h.ap y h1
    · simp at h1; rw [h1]; exact hxb
  refine ⟨ho, fun y hy => ?_, fun y hy => ?_⟩
  · have hyw : y.Wf w := by
      rcases List.mem_append.1 hy with h1 | h1
      · exact h.wf y h1
      · simp at h1; rw [h1]; exact hx
    refine hyw.fr hf ?_
    rcases hap y hy with h0 | ⟨b, off, e, _, hn⟩
    · exact .inl h0
    · exact .inr ⟨b, off, e, hn⟩
  · rcases hap y hy with h0 | ⟨b, off, e, hlt, hn⟩
    · exact .inl h0
    · refine .inr ⟨b, off, e, Nat.lt_of_lt_of_le hlt hf.size, fun e2 => ?_⟩
      have e3 : g = b := by simpa [Value.ownBlock] using e2
      subst e3
      rcases hl with hl | hl
      · exact hn hl
      · omega
theorem Kp.sl {w0 w : World} {a : Option Addr} {n c : Nat} {dk : List Mk} (h : Kp w0 w a n c dk) (hn : n ≤ 1000) : SlM w a n c dk := by
  have hcap := h.own.cap
  refine ⟨h.own.len, hcap.1, by omega, ?_, h.wf⟩
  by_cases h0 : n = 0
  · exact .inl h0
  · obtain ⟨g, rfl, _, hlt, _, _, hcell, _⟩ := h.own.at_ (fun x => rfl) (by omega)
    exact .inr ⟨g, 0, rfl, hlt, fun i x hx j v hv => by rw [Nat.zero_add]; exact hcell i x hx j v hv⟩
/-- What stands behind the copy of a mark's bytes. -/
structure Ow8 (w1 wr : World) (ka : Option Addr) (j kc : Nat) (dk : List Mk) (x : Mk) (a8 : Option Addr) (c8 : Nat) (w8 : World) : Prop where
  cells : w8.cell? ⟨wr.heap.size, 0, none⟩ = some (.int .i64 x.is) ∧ w8.cell? ⟨wr.heap.size, 1, none⟩ = some (.int .i64 x.host) ∧ w8.cell? ⟨wr.heap.size, 2, none⟩ = some (.int .u32 (x.own : Nat)) ∧ w8.cell? ⟨wr.heap.size, 3, none⟩ = some (.int .u32 (x.peer : Nat)) ∧ w8.cell? ⟨wr.heap.size, 4, none⟩ = some (.int .u16 (x.mst : Nat)) ∧ w8.cell? ⟨wr.heap.size, 5, none⟩ = some (.int .u16 (x.mssn : Nat)) ∧ w8.cell? ⟨wr.heap.size, 6, none⟩ = some (.int .u32 (x.mpp : Nat)) ∧ w8.cell? ⟨wr.heap.size, 7, none⟩ = some (.bool x.mfree) ∧ w8.cell? ⟨wr.heap.size, 8, none⟩ = some (.slice x.mdA x.mdN x.mdC) ∧ w8.cell? ⟨wr.heap.size, 9, none⟩ = some (.int .i64 x.note) ∧ w8.frozen? ⟨wr.heap.size, 8, none⟩ = false ∧ wr.heap.size < w8.heap.size ∧ True ∧ True ∧ True
  kA : Kp w1 ((w8.setCell ⟨wr.heap.size, 8, none⟩ (.slice a8 x.mdN c8)).alloc (.cells #[.int .i64 x.is, .int .i64 x.host, .int .u32 (x.own : Nat), .int .u32 (x.peer : Nat), .int .u16 (x.mst : Nat), .int .u16 (x.mssn : Nat), .int .u32 (x.mpp : Nat), .bool x.mfree, .slice a8 x.mdN c8, .int .i64 x.note] 44)) ka j kc dk
  cA : ∀ i u, (Mk.vals ⟨x.is, x.host, x.own, x.peer, x.mst, x.mssn, x.mpp, x.mfree, a8, x.mdN, c8, x.mdZ, x.note⟩)[i]? = some u → ((w8.setCell ⟨wr.heap.size, 8, none⟩ (.slice a8 x.mdN c8)).alloc (.cells #[.int .i64 x.is, .int .i64 x.host, .int .u32 (x.own : Nat), .int .u32 (x.peer : Nat), .int .u16 (x.mst : Nat), .int .u16 (x.mssn : Nat), .int .u32 (x.mpp : Nat), .bool x.mfree, .slice a8 x.mdN c8, .int .i64 x.note] 44)).cell? ((⟨w8.heap.size, 0, none⟩ : Addr).add i) = some u
  bA : w1.heap.size ≤ ((w8.setCell ⟨wr.heap.size, 8, none⟩ (.slice a8 x.mdN c8)).alloc (.cells #[.int .i64 x.is, .int .i64 x.host, .int .u32 (x.own : Nat), .int .u32 (x.peer : Nat), .int .u16 (x.mst : Nat), .int .u16 (x.mssn : Nat), .int .u32 (x.mpp : Nat), .bool x.mfree, .slice a8 x.mdN c8, .int .i64 x.note] 44)).heap.size
  wA : Mk.Wf ((w8.setCell ⟨wr.heap.size, 8, none⟩ (.slice a8 x.mdN c8)).alloc (.cells #[.int .i64 x.is, .int .i64 x.host, .int .u32 (x.own : Nat), .int .u32 (x.peer : Nat), .int .u16 (x.mst : Nat), .int .u16 (x.mssn : Nat), .int .u32 (x.mpp : Nat), .bool x.mfree, .slice a8 x.mdN c8, .int .i64 x.note] 44)) ⟨x.is, x.host, x.own, x.peer, x.mst, x.mssn, x.mpp, x.mfree, a8, x.mdN, c8, x.mdZ, x.note⟩
  aA : x.mdN = 0 ∨ ∃ b off, a8 = some ⟨b, off, none⟩ ∧ b < ((w8.setCell ⟨wr.heap.size, 8, none⟩ (.slice a8 x.mdN c8)).alloc (.cells #[.int .i64 x.is, .int .i64 x.host, .int .u32 (x.own : Nat), .int .u32 (x.peer : Nat), .int .u16 (x.mst : Nat), .int .u16 (x.mssn : Nat), .int .u32 (x.mpp : Nat), .bool x.mfree, .slice a8 x.mdN c8, .int .i64 x.note] 44)).heap.size ∧ (Value.slice ka j kc).ownBlock ≠ some b
  lA : Below w1.heap.size w1 ((w8.setCell ⟨wr.heap.size, 8, none⟩ (.slice a8 x.mdN c8)).alloc (.cells #[.int .i64 x.is, .int .i64 x.host, .int .u32 (x.own : Nat), .int .u32 (x.peer : Nat), .int .u16 (x.mst : Nat), .int .u16 (x.mssn : Nat), .int .u32 (x.mpp : Nat), .bool x.mfree, .slice a8 x.mdN c8, .int .i64 x.note] 44))
theorem ow8_mk {w1 wr : World} {ka : Option Addr} {j kc : Nat} {dk : List Mk} {x : Mk} {a8 : Option Addr} {c8 : Nat} {w8 : World} (hK : Kp w1 wr ka j kc dk) (hx : x.Wf w1) (hbel : Below w1.heap.size w1 wr) (ho : OwnB w8 (wr.heap.size + 1) a8 x.mdN c8 x.mdZ) (hb : Below (wr.heap.size + 1) ((wr.alloc (.cells #[.int .i64 x.is, .int .i64 x.host, .int .u32 (x.own : Nat), .int .u32 (x.peer : Nat), .int .u16 (x.mst : Nat), .int .u16 (x.mssn : Nat), .int .u32 (x.mpp : Nat), .bool x.mfree, .slice x.mdA x.mdN x.mdC, .int .i64 x.note] 44)).alloc (.cells #[] 5)) w8) (hn : x.mdN ≤ 140737488351232) : Ow8 w1 wr ka j kc dk x a8 c8 w8 := by
  have hr : ((wr.alloc (.cells #[.int .i64 x.is, .int .i64 x.host, .int .u32 (x.own : Nat), .int .u32 (x.peer : Nat), .int .u16 (x.mst : Nat), .int .u16 (x.mssn : Nat), .int .u32 (x.mpp : Nat), .bool x.mfree, .slice x.mdA x.mdN x.mdC, .int .i64 x.note] 44)).alloc (.cells #[] 5)).rangeAt wr.heap.size 0 x.vals := World.rangeAt_alloc (range_new wr x.vals 44 _ rfl) _
  have ht : ((wr.alloc (.cells #[.int .i64 x.is, .int .i64 x.host, .int .u32 (x.own : Nat), .int .u32 (x.peer : Nat), .int .u16 (x.mst : Nat), .int .u16 (x.mssn : Nat), .int .u32 (x.mpp : Nat), .bool x.mfree, .slice x.mdA x.mdN x.mdC, .int .i64 x.note] 44)).alloc (.cells #[] 5)).there wr.heap.size 0 10 := World.there_alloc (there_new wr x.vals 44 _ rfl) _
  have hr8 : w8.rangeAt wr.heap.size 0 x.vals := fun i v hv => (hb.cell (p := ⟨wr.heap.size, 0 + i, none⟩) (Nat.lt_succ_self _)).trans (hr i v hv)
  have hf8 : w8.frozen? ⟨wr.heap.size, 8, none⟩ = false := (hb.frozen (p := ⟨wr.heap.size, 8, none⟩) (Nat.lt_succ_self _)).trans (ht 8 (by omega)).2
  have hsz : wr.heap.size < w8.heap.size := by have := hb.size; simp at this; omega
  have hbw : Below wr.heap.size wr w8 := (((Below.refl _ _).alloc (Nat.le_refl _) _).alloc (by simp) _).trans (hb.mono (by omega))
  have hb8 : Below wr.heap.size wr (w8.setCell ⟨wr.heap.size, 8, none⟩ (.slice a8 x.mdN c8)) := hbw.setCell (p := ⟨wr.heap.size, 8, none⟩) (Nat.le_refl _) _
  have hbA : Below wr.heap.size wr ((w8.setCell ⟨wr.heap.size, 8, none⟩ (.slice a8 x.mdN c8)).alloc (.cells #[.int .i64 x.is, .int .i64 x.host, .int .u32 (x.own : Nat), .int .u32 (x.peer : Nat), .int .u16 (x.mst : Nat), .int .u16 (x.mssn : Nat), .int .u32 (x.mpp : Nat), .bool x.mfree, .slice a8 x.mdN c8, .int .i64 x.note] 44)) := hb8.trans ((Below.refl _ _).alloc hb8.size _)
  have hfr : Fr (· = wr.heap.size) w8 (w8.setCell ⟨wr.heap.size, 8, none⟩ (.slice a8 x.mdN c8)) := Fr.setCell _ _ _ _ rfl
  have hsl := ho.sl (by omega)
  have hblk : x.mdN = 0 ∨ ∃ b off, a8 = some ⟨b, off, none⟩ ∧ wr.heap.size < b ∧ b < w8.heap.size := by
    by_cases h0 : x.mdN = 0
    · exact .inl h0
    · rcases ho.own.2 with ⟨_, h1⟩ | ⟨g, cap, cur, hv, hg, hh, _⟩
      · exact absurd h1 h0
      · injection hv with e1
        exact .inr ⟨g, 0, e1, by omega, (Array.getElem?_eq_some_iff.1 hh).1⟩
  have hs8 : (w8.setCell ⟨wr.heap.size, 8, none⟩ (.slice a8 x.mdN c8)).heap.size = w8.heap.size := by simp [World.setCell]
  refine ⟨⟨hr8 0 _ rfl, hr8 1 _ rfl, hr8 2 _ rfl, hr8 3 _ rfl, hr8 4 _ rfl, hr8 5 _ rfl, hr8 6 _ rfl, hr8 7 _ rfl, hr8 8 _ rfl, hr8 9 _ rfl, hf8, hsz, trivial, trivial, trivial⟩, hK.below hbA, ?_, ?_, ?_, ?_, ?_⟩
  · intro i u hu
    have h1 := range_new (w8.setCell ⟨wr.heap.size, 8, none⟩ (.slice a8 x.mdN c8)) (Mk.vals ⟨x.is, x.host, x.own, x.peer, x.mst, x.mssn, x.mpp, x.mfree, a8, x.mdN, c8, x.mdZ, x.note⟩) 44 _ rfl
    rw [hs8] at h1
    rw [Addr.add_mid]
    exact h1 i u hu
  · exact Nat.le_trans hbel.size hbA.size
  · obtain ⟨h0, h1, h2, h3, h4, h5, h6, h7, h9⟩ := hx
    refine ⟨h0, h1, h2, h3, h4, h5, h6, ⟨?_, ?_⟩, h9⟩
    · refine (Sl.fr hsl hfr ?_).alloc _
      rcases hblk with h | ⟨b, off, e, hl, _⟩
      · exact .inl h
      · exact .inr ⟨b, off, e, by show ¬ b = wr.heap.size; omega⟩
    · exact hn
  · rcases hblk with h | ⟨b, off, e, hl, hl2⟩
    · exact .inl h
    · refine .inr ⟨b, off, e, ?_, fun e2 => ?_⟩
      · have : (w8.setCell ⟨wr.heap.size, 8, none⟩ (.slice a8 x.mdN c8)).heap.size ≤ ((w8.setCell ⟨wr.heap.size, 8, none⟩ (.slice a8 x.mdN c8)).alloc (.cells #[.int .i64 x.is, .int .i64 x.host, .int .u32 (x.own : Nat), .int .u32 (x.peer : Nat), .int .u16 (x.mst : Nat), .int .u16 (x.mssn : Nat), .int .u32 (x.mpp : Nat), .bool x.mfree, .slice a8 x.mdN c8, .int .i64 x.note] 44)).heap.size := by simp
        omega
      · have := (hK.own.own.lt b e2).2
        omega
  · exact hbel.trans (hbA.mono hbel.size)
set_option maxRecDepth 100000 in
set_option maxHeartbeats 8000000 in
theorem walk_JudgeOwn (a : Option Addr) (ln c : Nat) (dd : List Mk) (w : World) (hl : SlM w a ln c dd) :
    Calls Try.prog 8 #[.slice a ln c] w fun e w' => e = .returned (.bool true) ∧ Below w.heap.size w w' := by
  go_enter Try.func8, Try.ntmps8
  go_wp2_with fail
  refine (short_any a ln c dd w hl).mono ?_
  rintro e w1 ⟨⟨m, rfl, hm1, hm2, hS⟩, rfl⟩
  clear hl
  generalize dd.take m = ds at hS
  clear dd hm2
  have hlen := hS.len
  have HA : Hid (m = 0 ∨ ∃ lb off, a = some ⟨lb, off, none⟩ ∧ lb < w1.heap.size ∧ ∀ i x, ds[i]? = some x → w1.rangeAt lb (off + i * 10) x.vals) := by
    rcases hS.at_ with h0 | ⟨lb, off, e, hlt, hc⟩
    · exact .inl h0
    · exact .inr ⟨lb, off, e, hlt, fun i x hx j v hv => hc i x hx j v hv⟩
  have HS := (show Hid _ from hS)
  clear hS
  go_wp2_with fail
  go_loopw [3, 4] (fun kv iv wr => ∃ (j : Nat) (ka : Option Addr) (kc : Nat) (dk : List Mk), kv = .slice ka j kc ∧ iv = .int .i64 (j : Nat) ∧ j ≤ m ∧ Kp w1 wr ka j kc dk ∧ dk.map Mk.era = (ds.take j).map Mk.era ∧ Below w1.heap.size w1 wr) (fun _ iv _ => m - (intOf iv).toNat)
  case atStart => exact ⟨0, none, 0, [], rfl, rfl, by omega, ⟨OwnG.nil _ _, fun x hx => (by cases hx), fun x hx => (by cases hx)⟩, rfl, Below.refl _ _⟩
  case round =>
    obtain ⟨j, ka, kc, dk, rfl, rfl, hjm, hK, hE, hbel⟩ := hrel
    by_cases hjl : j < m
    · have hj1 : (j : Int) < (m : Int) := by omega
      have hj0 : (0 : Int) ≤ (j : Int) := by omega
      obtain ⟨x, hx⟩ : ∃ x, ds[j]? = some x := ⟨_, List.getElem?_eq_getElem (by omega)⟩
      have hwx := HS.out.wf x (List.mem_of_getElem? hx)
      rcases HA.out with h0 | ⟨lb, off, rfl, hlt, hM⟩
      · omega
      have hr := range_below (hM j x hx) hbel hlt
      have x0 : wr.cell? ⟨lb, off + j * 10, none⟩ = some (.int .i64 x.is) := hr 0 _ rfl
      have x1 : wr.cell? ⟨lb, off + j * 10 + 1, none⟩ = some (.int .i64 x.host) := hr 1 _ rfl
      have x2 : wr.cell? ⟨lb, off + j * 10 + 2, none⟩ = some (.int .u32 (x.own : Nat)) := hr 2 _ rfl
      have x3 : wr.cell? ⟨lb, off + j * 10 + 3, none⟩ = some (.int .u32 (x.peer : Nat)) := hr 3 _ rfl
      have x4 : wr.cell? ⟨lb, off + j * 10 + 4, none⟩ = some (.int .u16 (x.mst : Nat)) := hr 4 _ rfl
      have x5 : wr.cell? ⟨lb, off + j * 10 + 5, none⟩ = some (.int .u16 (x.mssn : Nat)) := hr 5 _ rfl
      have x6 : wr.cell? ⟨lb, off + j * 10 + 6, none⟩ = some (.int .u32 (x.mpp : Nat)) := hr 6 _ rfl
      have x7 : wr.cell? ⟨lb, off + j * 10 + 7, none⟩ = some (.bool x.mfree) := hr 7 _ rfl
      have x8 : wr.cell? ⟨lb, off + j * 10 + 8, none⟩ = some (.slice x.mdA x.mdN x.mdC) := hr 8 _ rfl
      have x9 : wr.cell? ⟨lb, off + j * 10 + 9, none⟩ = some (.int .i64 x.note) := hr 9 _ rfl
      obtain ⟨W6, HW6⟩ : ∃ W6, Hid (W6 = wr.alloc (.cells #[.int .i64 x.is, .int .i64 x.host, .int .u32 (x.own : Nat), .int .u32 (x.peer : Nat), .int .u16 (x.mst : Nat), .int .u16 (x.mssn : Nat), .int .u32 (x.mpp : Nat), .bool x.mfree, .slice x.mdA x.mdN x.mdC, .int .i64 x.note] 44)) := ⟨_, rfl⟩
      have hb6 : Below wr.heap.size wr W6 := by rw [HW6.out]; exact (Below.refl _ _).alloc (Nat.le_refl _) _
      have hz6 : W6.heap.size = wr.heap.size + 1 := by rw [HW6.out]; simp
      have hr6 : W6.rangeAt wr.heap.size 0 x.vals := range_new wr x.vals 44 W6 HW6.out
      have ht6 := there_new wr x.vals 44 W6 HW6.out
      have hsrc : Sl (W6.alloc (.cells #[] 5)) x.mdA x.mdN x.mdC x.mdZ := ((hwx.2.2.2.2.2.2.2.1.1.below hbel).below hb6).alloc _
      have hown0 : OwnB (W6.alloc (.cells #[] 5)) (wr.heap.size + 1) (some ⟨wr.heap.size + 1, 0, none⟩) 0 0 [] := by rw [← hz6]; exact own_empty W6
      have hcx := hwx.2.2.2.2.2.2.2.1.2
      have hnx := hsrc.cap
      have hsz : (W6.alloc (.cells #[] 5)).heap.size = wr.heap.size + 1 + 1 := by simp [hz6]
      rw [HW6.out] at hsrc hown0 hsz
      have HT := (show Hid _ from And.intro hE (And.intro hx (And.intro hK hwx)))
      have HW := (show Hid _ from And.intro hb6 (And.intro hz6 (And.intro hr6 ht6)))
      clear hM hr hx hE hK hwx hb6 hz6 hr6 ht6
      have HOWN : Hid (∀ (a8 : Option Addr) (c8 : Nat) (w8 : World), OwnB w8 (wr.heap.size + 1) a8 x.mdN c8 x.mdZ → Below (wr.heap.size + 1) ((wr.alloc (.cells #[.int .i64 x.is, .int .i64 x.host, .int .u32 (x.own : Nat), .int .u32 (x.peer : Nat), .int .u16 (x.mst : Nat), .int .u16 (x.mssn : Nat), .int .u32 (x.mpp : Nat), .bool x.mfree, .slice x.mdA x.mdN x.mdC, .int .i64 x.note] 44)).alloc (.cells #[] 5)) w8 → Ow8 w1 wr ka j kc dk x a8 c8 w8) := fun a8 c8 w8 ho hb => ow8_mk HT.out.2.2.1 HT.out.2.2.2 hbel ho hb (by omega)
      go_wp2_with (first
        | (at_builtin; refine app_list rfl _ _ rfl (wr.heap.size + 1) _ 0 0 [] rfl hown0 x.mdA x.mdN x.mdC x.mdZ rfl hsrc (by omega) (by omega) ?_; intro a8 c8 w8 ho8 hg8; have ho8' : OwnB w8 (wr.heap.size + 1) a8 x.mdN c8 x.mdZ := (by simpa using ho8); rw [Nat.zero_add]; have h8 := HOWN.out a8 c8 w8 ho8' (hown0.up hg8 (by omega)); clear ho8 hg8 ho8' hsrc hown0 hsz HOWN; obtain ⟨y0, y1, y2, y3, y4, y5, y6, y7, y8, y9, f8, z8, _, _, _⟩ := h8.cells; have H8 := (show Hid _ from h8); clear h8)
        | (at_builtin; refine OwnG.wpl mkLays rfl _ _ rfl rfl H8.out.kA.own ⟨x.is, x.host, x.own, x.peer, x.mst, x.mssn, x.mpp, x.mfree, a8, x.mdN, c8, x.mdZ, x.note⟩ ⟨w8.heap.size, 0, none⟩ rfl (by exact H8.out.cA) (by unfold maxLen; omega) (by omega) H8.out.bA ?_; intro g9 c9 w9 ho9 hg9 hl9 hlt9; have hK9 := H8.out.kA.app ⟨x.is, x.host, x.own, x.peer, x.mst, x.mssn, x.mpp, x.mfree, a8, x.mdN, c8, x.mdZ, x.note⟩ H8.out.wA H8.out.aA ho9 hg9 hl9; have hb9 := H8.out.lA.trans ((H8.out.kA.own.up hg9 H8.out.bA).mono (Nat.le_refl _)); have H9 := (show Hid _ from And.intro hK9 hb9); clear ho9 hg9 hl9 hlt9 hK9 hb9)
        | fail)
      go_roundw
      case rel =>
        refine ⟨j + 1, some ⟨g9, 0, none⟩, c9, dk ++ [⟨x.is, x.host, x.own, x.peer, x.mst, x.mssn, x.mpp, x.mfree, a8, x.mdN, c8, x.mdZ, x.note⟩], rfl, by go_num, by omega, H9.out.1, ?_, H9.out.2⟩
        obtain ⟨hE, hx, _, _⟩ := HT.out
        have hj := (List.getElem?_eq_some_iff.1 hx).1
        rw [List.map_append, hE, List.take_succ_eq_append_getElem hj, List.map_append, (List.getElem?_eq_some_iff.1 hx).2]
        rfl
      case measure => simp [intOf]; omega
    · obtain rfl : j = m := by omega
      have hj1 : ¬ (j : Int) < (j : Int) := by omega
      have hE' : dk.map Mk.era = ds.map Mk.era := by rw [hE, List.take_of_length_le (by omega)]
      have hJ := era_jdg hE'.symm
      have HJ := (show Hid _ from hJ)
      have HK := (show Hid _ from hK)
      have HE := (show Hid _ from hE')
      clear hE hE' hJ hK
      go_wp2_with (first
        | (go_at_call 10; refine (judge_any a j c ds _ (HS.out.below hbel) (by omega) _ rfl).mono ?_; rintro e w2 ⟨rfl, hb2⟩; have hb02 := hbel.trans (hb2.mono hbel.size); have HK2 := (show Hid _ from HK.out.below hb2))
        | (go_at_call 13; refine (owed_any a j c ds (0, 1, 2) ⟨rfl, by decide, by decide⟩ _ (HS.out.below hb02) (by omega) _ rfl).mono ?_; rintro e w3 ⟨rfl, hb3⟩; have hb03 := hb02.trans (hb3.mono hb02.size); have HK3 := (show Hid _ from HK2.out.below hb3); clear hb2 hb3 hbel hb02 HK HK2)
        | fail)
      go_loopw [10] (fun iv wr => ∃ i : Nat, iv = .int .i64 (i : Nat) ∧ i ≤ j ∧ Below w3.heap.size w3 wr) (fun iv _ => j - (intOf iv).toNat)
      case atStart => exact ⟨0, rfl, by omega, Below.refl _ _⟩
      case round =>
        obtain ⟨i, rfl, hij, hbw⟩ := hrel
        by_cases hil : i < j
        · have hi1 : (i : Int) < (j : Int) := by omega
          have hi0 : (0 : Int) ≤ (i : Int) := by omega
          obtain ⟨x, hx⟩ : ∃ x, ds[i]? = some x := ⟨_, List.getElem?_eq_getElem (by omega)⟩
          obtain ⟨y, hy⟩ : ∃ y, dk[i]? = some y := ⟨_, List.getElem?_eq_getElem (by have := HK3.out.own.len; omega)⟩
          have hwx := HS.out.wf x (List.mem_of_getElem? hx)
          have hwy := HK3.out.wf y (List.mem_of_getElem? hy)
          rcases HA.out with h0 | ⟨lb, off, rfl, hlt, hM⟩
          · omega
          obtain ⟨g, rfl, hgB, hgl, hgc, hgm, hcell, _⟩ := HK3.out.own.at_ (fun x => rfl) (by omega)
          have hey : y.era = x.era := by
            have h1 := congrArg (fun l => l[i]?) HE.out
            simp only [List.getElem?_map, hx, hy, Option.map_some] at h1
            exact Option.some.inj h1
          obtain ⟨yi, yh, yo, yp, ys, yn1, ypp, yf, ya, yn, yc, yz, yt⟩ := y
          obtain ⟨rfl, rfl, rfl, rfl, rfl, rfl, rfl, rfl, rfl, rfl⟩ : yi = x.is ∧ yh = x.host ∧ yo = x.own ∧ yp = x.peer ∧ ys = x.mst ∧ yn1 = x.mssn ∧ ypp = x.mpp ∧ yf = x.mfree ∧ yz = x.mdZ ∧ yt = x.note := by
            unfold Mk.era at hey
            injection hey with e1 e2 e3 e4 e5 e6 e7 e8 e9 e10 e11 e12 e13
            exact ⟨e1, e2, e3, e4, e5, e6, e7, e8, e12, e13⟩
          have hrx : w3.rangeAt lb (off + i * 10) x.vals := range_below (hM i x hx) hb03 hlt
          have hry : w3.rangeAt g (i * 10) (Mk.vals ⟨x.is, x.host, x.own, x.peer, x.mst, x.mssn, x.mpp, x.mfree, ya, yn, yc, x.mdZ, x.note⟩) := fun k u hu => hcell i _ hy k u hu
          have hlb : lb < w3.heap.size := Nat.lt_of_lt_of_le hlt hb03.size
          have HALL : Hid (∀ V, Below w3.heap.size w3 V → V.cell? ⟨lb, off + i * 10, none⟩ = some (.int .i64 x.is) ∧ V.cell? ⟨lb, off + i * 10 + 1, none⟩ = some (.int .i64 x.host) ∧ V.cell? ⟨lb, off + i * 10 + 2, none⟩ = some (.int .u32 (x.own : Nat)) ∧ V.cell? ⟨lb, off + i * 10 + 3, none⟩ = some (.int .u32 (x.peer : Nat)) ∧ V.cell? ⟨lb, off + i * 10 + 4, none⟩ = some (.int .u16 (x.mst : Nat)) ∧ V.cell? ⟨lb, off + i * 10 + 5, none⟩ = some (.int .u16 (x.mssn : Nat)) ∧ V.cell? ⟨lb, off + i * 10 + 6, none⟩ = some (.int .u32 (x.mpp : Nat)) ∧ V.cell? ⟨lb, off + i * 10 + 7, none⟩ = some (.bool x.mfree) ∧ V.cell? ⟨lb, off + i * 10 + 8, none⟩ = some (.slice x.mdA x.mdN x.mdC) ∧ V.cell? ⟨lb, off + i * 10 + 9, none⟩ = some (.int .i64 x.note) ∧ V.cell? ⟨g, i * 10, none⟩ = some (.int .i64 x.is) ∧ V.cell? ⟨g, i * 10 + 1, none⟩ = some (.int .i64 x.host) ∧ V.cell? ⟨g, i * 10 + 2, none⟩ = some (.int .u32 (x.own : Nat)) ∧ V.cell? ⟨g, i * 10 + 3, none⟩ = some (.int .u32 (x.peer : Nat)) ∧ V.cell? ⟨g, i * 10 + 4, none⟩ = some (.int .u16 (x.mst : Nat)) ∧ V.cell? ⟨g, i * 10 + 5, none⟩ = some (.int .u16 (x.mssn : Nat)) ∧ V.cell? ⟨g, i * 10 + 6, none⟩ = some (.int .u32 (x.mpp : Nat)) ∧ V.cell? ⟨g, i * 10 + 7, none⟩ = some (.bool x.mfree) ∧ V.cell? ⟨g, i * 10 + 8, none⟩ = some (.slice ya yn yc) ∧ V.cell? ⟨g, i * 10 + 9, none⟩ = some (.int .i64 x.note) ∧ Below w3.heap.size w3 V) := fun V hV => ⟨range_below hrx hV hlb 0 _ rfl, range_below hrx hV hlb 1 _ rfl, range_below hrx hV hlb 2 _ rfl, range_below hrx hV hlb 3 _ rfl, range_below hrx hV hlb 4 _ rfl, range_below hrx hV hlb 5 _ rfl, range_below hrx hV hlb 6 _ rfl, range_below hrx hV hlb 7 _ rfl, range_below hrx hV hlb 8 _ rfl, range_below hrx hV hlb 9 _ rfl, range_below hry hV hgl 0 _ rfl, range_below hry hV hgl 1 _ rfl, range_below hry hV hgl 2 _ rfl, range_below hry hV hgl 3 _ rfl, range_below hry hV hgl 4 _ rfl, range_below hry hV hgl 5 _ rfl, range_below hry hV hgl 6 _ rfl, range_below hry hV hgl 7 _ rfl, range_below hry hV hgl 8 _ rfl, range_below hry hV hgl 9 _ rfl, hV⟩
          have hbD : Below w3.heap.size w3 wr.drew := hbw.drew
          have HB1 : Hid (∀ o, Below w3.heap.size w3 (wr.alloc o).drew) := fun o => (hbw.trans (((Below.refl _ _).alloc (Nat.le_refl _) o).mono hbw.size)).drew
          have HB2 : Hid (∀ o1 o2, Below w3.heap.size w3 ((wr.alloc o1).alloc o2).drew) := fun o1 o2 => (hbw.trans ((((Below.refl _ _).alloc (Nat.le_refl _) o1).alloc (by simp) o2).mono hbw.size)).drew
          have HOK : Hid (∀ W, Below w3.heap.size w3 W → x.msg.Ok W ∧ (Mk.msg ⟨x.is, x.host, x.own, x.peer, x.mst, x.mssn, x.mpp, x.mfree, ya, yn, yc, x.mdZ, x.note⟩).Ok W) := fun W hW => ⟨(hwx.msg.below hb03).below hW, hwy.msg.below hW⟩
          have hcap1 : (j : Int) ≤ (yc : Int) ∨ True := .inr trivial
          clear hx hy hwx hwy hM hcell hey hrx hry hlb hcap1 hgB hgc hgm
          go_wp2_with fail
          go_region_held3 (fun V => V.cell? ⟨lb, off + i * 10, none⟩ = some (.int .i64 x.is) ∧ V.cell? ⟨lb, off + i * 10 + 1, none⟩ = some (.int .i64 x.host) ∧ V.cell? ⟨lb, off + i * 10 + 2, none⟩ = some (.int .u32 (x.own : Nat)) ∧ V.cell? ⟨lb, off + i * 10 + 3, none⟩ = some (.int .u32 (x.peer : Nat)) ∧ V.cell? ⟨lb, off + i * 10 + 4, none⟩ = some (.int .u16 (x.mst : Nat)) ∧ V.cell? ⟨lb, off + i * 10 + 5, none⟩ = some (.int .u16 (x.mssn : Nat)) ∧ V.cell? ⟨lb, off + i * 10 + 6, none⟩ = some (.int .u32 (x.mpp : Nat)) ∧ V.cell? ⟨lb, off + i * 10 + 7, none⟩ = some (.bool x.mfree) ∧ V.cell? ⟨lb, off + i * 10 + 8, none⟩ = some (.slice x.mdA x.mdN x.mdC) ∧ V.cell? ⟨lb, off + i * 10 + 9, none⟩ = some (.int .i64 x.note) ∧ V.cell? ⟨g, i * 10, none⟩ = some (.int .i64 x.is) ∧ V.cell? ⟨g, i * 10 + 1, none⟩ = some (.int .i64 x.host) ∧ V.cell? ⟨g, i * 10 + 2, none⟩ = some (.int .u32 (x.own : Nat)) ∧ V.cell? ⟨g, i * 10 + 3, none⟩ = some (.int .u32 (x.peer : Nat)) ∧ V.cell? ⟨g, i * 10 + 4, none⟩ = some (.int .u16 (x.mst : Nat)) ∧ V.cell? ⟨g, i * 10 + 5, none⟩ = some (.int .u16 (x.mssn : Nat)) ∧ V.cell? ⟨g, i * 10 + 6, none⟩ = some (.int .u32 (x.mpp : Nat)) ∧ V.cell? ⟨g, i * 10 + 7, none⟩ = some (.bool x.mfree) ∧ V.cell? ⟨g, i * 10 + 8, none⟩ = some (.slice ya yn yc) ∧ V.cell? ⟨g, i * 10 + 9, none⟩ = some (.int .i64 x.note) ∧ Below w3.heap.size w3 V) (first | exact HALL.out _ (by assumption) | exact HALL.out _ (HB1.out _) | exact HALL.out _ (HB2.out _ _)) (fail)
          all_goals
            have HAK : Hid (alkJ x.msg (Mk.msg ⟨x.is, x.host, x.own, x.peer, x.mst, x.mssn, x.mpp, x.mfree, ya, yn, yc, x.mdZ, x.note⟩) = true) := by show alkJ _ _ = true; simp [alkJ, Mk.msg]
            have HBW := (show Hid _ from hbw)
            clear HALL hbD HB1 hbw
            simp only [Exit.then]
            go_wp2_with (first
              | (go_at_call 17; refine (alike_any x.msg (Mk.msg ⟨x.is, x.host, x.own, x.peer, x.mst, x.mssn, x.mpp, x.mfree, ya, yn, yc, x.mdZ, x.note⟩) _ (HOK.out _ (HB2.out _ _)).1 (HOK.out _ (HB2.out _ _)).2 _ _ rfl rfl).mono ?_; rintro e w5 ⟨he, hb5⟩; obtain rfl : e = .returned (.bool true) := (by rw [he, HAK.out]); clear he; have hb35 := (HB2.out _ _).trans (hb5.mono (HB2.out _ _).size); clear hb5)
              | fail)
            go_roundw
            case rel => exact ⟨i + 1, by go_num, by omega, hb35⟩
            case measure => simp [intOf]; omega
        · obtain rfl : i = j := by omega
          have hi1 : ¬ (i : Int) < (i : Int) := by omega
          have hK4 := HK3.out.below hbw
          have hb04 := hb03.trans (hbw.mono hb03.size)
          clear hbw hb03
          go_wp2_with (first
            | (go_at_call 10; refine (judge_any ka i kc dk _ (hK4.sl (by omega)) (by omega) _ rfl).mono ?_; rintro e w5 ⟨rfl, hb5⟩; rw [← HJ.out.1, ← HJ.out.2.1]; have hK5 := hK4.below hb5; have hb05 := hb04.trans (hb5.mono hb04.size); clear hb5)
            | (go_at_call 13; refine (owed_any ka i kc dk (0, 1, 2) ⟨rfl, by decide, by decide⟩ _ (hK5.sl (by omega)) (by omega) _ rfl).mono ?_; rintro e w6 ⟨rfl, hb6⟩; rw [← HJ.out.2.2]; have hb06 := hb05.trans (hb6.mono hb05.size); clear hb6)
            | (go_at_call 12; refine (live19_any _).mono ?_; rintro e w7 ⟨rfl, hb7⟩; have hb07 := hb06.trans (hb7.mono hb06.size); clear hb7)
            | fail)
          go_ret
          exact ⟨rfl, hb07⟩
end Go.Proofs.Ytpdnkbhgobdniaa
