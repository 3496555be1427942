/- ref19.Sent. -/
import Derived.Test.YtpdnkbhgobdniaaJdEr
import Derived.Deep.DeepMust
namespace Go.Proofs.Ytpdnkbhgobdniaa
open Go.RowKit Go.MapKept Go.Maps
/-- What a side sent, by marks. -/
def sentL (ds : List Mk) (q : Sd) : List Mg := (ds.filter fun x => decide (x.is = 1) && ofJ x q).map Mk.msg
theorem sentL_snoc (ds : List Mk) (x : Mk) (q : Sd) : sentL (ds ++ [x]) q = sentL ds q ++ if decide (x.is = 1) && ofJ x q then [x.msg] else [] := by
  unfold sentL
  rw [List.filter_append, List.map_append]
  congr 1
  by_cases h : (decide (x.is = 1) && ofJ x q) = true
  · rw [if_pos h]; simp [h]
  · rw [if_neg h]; simp [h]
theorem sentL_len (ds : List Mk) (q : Sd) : (sentL ds q).length ≤ ds.length := by
  unfold sentL
  rw [List.length_map]
  exact List.length_filter_le _ _
theorem sentL_mem {ds : List Mk} {q : Sd} {m : Mg} (h : m ∈ sentL ds q) : ∃ x ∈ ds, m = x.msg := by
  unfold sentL at h
  obtain ⟨x, hx, rfl⟩ := List.mem_map.1 h
  exact ⟨x, (List.mem_filter.1 hx).1, rfl⟩
/-- An empty row of its own. -/
theorem OwnG.empty {α : Type} {T : TypeId} {k : Nat} {cf : α → List Value} (w : World) : OwnG T k cf (w.alloc (.cells #[] T)) w.heap.size (some ⟨w.heap.size, 0, none⟩) 0 0 [] := by
  refine ⟨rfl, ⟨by simp [valsG], .inr ⟨w.heap.size, 0, #[], rfl, Nat.le_refl _, (heap_alloc w _).1, Nat.le_refl _, by unfold maxLen; omega, by simp, by simp [valsG]⟩⟩⟩
/-- A row of messages that a call made. -/
structure RowM (w0 : World) (ms : List Mg) (e : Ending) (w' : World) : Prop where
  out : ∃ a n c, e = .returned (.slice a n c) ∧ OwnG 41 5 Mg.cells w' w0.heap.size a n c ms
  bel : Below w0.heap.size w0 w'
set_option maxRecDepth 100000 in
set_option maxHeartbeats 8000000 in
theorem rsent_any (a : Option Addr) (m c : Nat) (ds : List Mk) (q : Sd) (w : World) (hS : SlM w a m c ds) (hm : m ≤ 1000) (v : Value) (hv : v = .slice a m c) :
    Calls Try.prog 15 #[v, .int .i64 q.1, .int .u32 (q.2.1 : Nat), .int .u32 (q.2.2 : Nat)] w (RowM w (sentL ds q)) := by
  subst hv
  have hlen := hS.len
  have HA : Hid (m = 0 ∨ ∃ lb off, a = some ⟨lb, off, none⟩ ∧ lb < w.heap.size ∧ ∀ i x, ds[i]? = some x → w.rangeAt lb (off + i * 10) x.vals) := by
    rcases hS.at_ with h0 | ⟨lb, off, e, hlt, hc⟩
    · exact .inl h0
    · exact .inr ⟨lb, off, e, hlt, fun i x hx j v hv => hc i x hx j v hv⟩
  have H0 := (show Hid _ from OwnG.empty (T := 41) (k := 5) (cf := Mg.cells) w)
  clear hS
  go_enter Try.func15, Try.ntmps15
  go_wp2_with fail
  go_loopw [9, 10] (fun kv iv wr => ∃ (i : Nat) (ka : Option Addr) (kn kc : Nat), kv = .slice ka kn kc ∧ iv = .int .i64 (i : Nat) ∧ i ≤ m ∧ OwnG 41 5 Mg.cells wr w.heap.size ka kn kc (sentL (ds.take i) q) ∧ Below w.heap.size w wr) (fun _ iv _ => m - (intOf iv).toNat)
  case atStart => exact ⟨0, _, 0, 0, rfl, rfl, by omega, H0.out, (Below.refl _ _).alloc (Nat.le_refl _) _⟩
  case round =>
    obtain ⟨i, ka, kn, kc, rfl, rfl, him, hK, hbel⟩ := hrel
    clear H0
    by_cases hil : i < m
    · have hi1 : (i : Int) < (m : Int) := by omega
      have hi0 : (0 : Int) ≤ (i : Int) := by omega
      obtain ⟨x, hx⟩ : ∃ x, ds[i]? = some x := ⟨_, List.getElem?_eq_getElem (by omega)⟩
      rcases HA.out with h0 | ⟨lb, off, rfl, hlt, hM⟩
      · omega
      have hr := range_below (hM i x hx) hbel hlt
      have x0 : wr.cell? ⟨lb, off + i * 10, none⟩ = some (.int .i64 x.is) := hr 0 _ rfl
      have x1 : wr.cell? ⟨lb, off + i * 10 + 1, none⟩ = some (.int .i64 x.host) := hr 1 _ rfl
      have x2 : wr.cell? ⟨lb, off + i * 10 + 2, none⟩ = some (.int .u32 (x.own : Nat)) := hr 2 _ rfl
      have x3 : wr.cell? ⟨lb, off + i * 10 + 3, none⟩ = some (.int .u32 (x.peer : Nat)) := hr 3 _ rfl
      have x4 : wr.cell? ⟨lb, off + i * 10 + 4, none⟩ = some (.int .u16 (x.mst : Nat)) := hr 4 _ rfl
      have x5 : wr.cell? ⟨lb, off + i * 10 + 5, none⟩ = some (.int .u16 (x.mssn : Nat)) := hr 5 _ rfl
      have x6 : wr.cell? ⟨lb, off + i * 10 + 6, none⟩ = some (.int .u32 (x.mpp : Nat)) := hr 6 _ rfl
      have x7 : wr.cell? ⟨lb, off + i * 10 + 7, none⟩ = some (.bool x.mfree) := hr 7 _ rfl
      have x8 : wr.cell? ⟨lb, off + i * 10 + 8, none⟩ = some (.slice x.mdA x.mdN x.mdC) := hr 8 _ rfl
      have x9 : wr.cell? ⟨lb, off + i * 10 + 9, none⟩ = some (.int .i64 x.note) := hr 9 _ rfl
      have hkn : kn ≤ i := by
        have h1 := hK.len
        have h2 := sentL_len (ds.take i) q
        have h3 : (ds.take i).length ≤ i := List.length_take_le _ _
        omega
      have HN : Hid (sentL (ds.take (i + 1)) q = sentL (ds.take i) q ++ if decide (x.is = 1) && ofJ x q then [x.msg] else []) := by
        have hj := (List.getElem?_eq_some_iff.1 hx).1
        rw [List.take_succ_eq_append_getElem hj, (List.getElem?_eq_some_iff.1 hx).2]
        exact sentL_snoc _ _ _
      obtain ⟨B, HB⟩ : ∃ B, Hid (B = ofJ x q) := ⟨_, rfl⟩
      have HM0 := (show Hid _ from And.intro hlt (hM i x hx))
      have HK := (show Hid _ from hK)
      clear hM hr hx hK
      by_cases h1 : x.is = 1
      · have q1 : (x.is == 1) = true := by simpa using h1
        have H1 := (show Hid _ from h1)
        clear h1
        cases B
        · go_wp2_with (first
            | (go_at_call 16; refine (of19_any x q.1 q.2.1 q.2.2 _ _ rfl).mono ?_; rintro e w5 ⟨he, hb5⟩; obtain rfl : e = .returned (.bool false) := (by rw [HB.out]; exact he); clear he; have hb05 := hbel.trans (hb5.mono hbel.size); have HK5 := (show Hid _ from HK.out.below hb5); have hr := range_below HM0.out.2 hb05 HM0.out.1; have m4 := hr 4 _ rfl; have m5 := hr 5 _ rfl; have m6 := hr 6 _ rfl; have m7 := hr 7 _ rfl; have m8 := hr 8 _ rfl; clear hr hb5)
            | fail)
          go_roundw
          case rel => exact ⟨i + 1, ka, kn, kc, rfl, by go_num, by omega, by rw [HN.out, ← HB.out]; simp; exact HK5.out, hb05⟩
          case measure => simp [intOf]; omega
        · go_wp2_with (first
            | (go_at_call 16; refine (of19_any x q.1 q.2.1 q.2.2 _ _ rfl).mono ?_; rintro e w5 ⟨he, hb5⟩; obtain rfl : e = .returned (.bool true) := (by rw [HB.out]; exact he); clear he; have hb05 := hbel.trans (hb5.mono hbel.size); have HK5 := (show Hid _ from HK.out.below hb5); have hr := range_below HM0.out.2 hb05 HM0.out.1; have m4 := hr 4 _ rfl; have m5 := hr 5 _ rfl; have m6 := hr 6 _ rfl; have m7 := hr 7 _ rfl; have m8 := hr 8 _ rfl; clear hr hb5)
            | (at_builtin; refine OwnG.wpl mgLays rfl _ _ rfl rfl (HK5.out.below ((Below.refl _ _).alloc (Nat.le_refl _) (.cells #[.int .u16 (x.mst : Nat), .int .u16 (x.mssn : Nat), .int .u32 (x.mpp : Nat), .bool x.mfree, .slice x.mdA x.mdN x.mdC] 41))) x.msg ⟨w5.heap.size, 0, none⟩ rfl (fun k u hu => by rw [Addr.add_mid]; exact range_new w5 x.msg.cells 41 _ rfl k u hu) (by unfold maxLen; omega) (by omega) (Nat.le_trans hb05.size (by simp)) ?_; intro g9 c9 w9 ho9 hg9 hl9 hlt9; have hb9 := hb05.trans ((((Below.refl _ _).alloc (Nat.le_refl _) _).mono hb05.size).trans ((HK5.out.below ((Below.refl _ _).alloc (Nat.le_refl _) (.cells #[.int .u16 (x.mst : Nat), .int .u16 (x.mssn : Nat), .int .u32 (x.mpp : Nat), .bool x.mfree, .slice x.mdA x.mdN x.mdC] 41))).up hg9 (Nat.le_trans hb05.size (by simp)))); have H9 := (show Hid _ from And.intro ho9 hb9); clear ho9 hg9 hl9 hlt9 hb9)
            | fail)
          go_roundw
          case rel => exact ⟨i + 1, _, kn + 1, c9, rfl, by go_num, by omega, by rw [HN.out, ← HB.out, H1.out]; exact H9.out.1, H9.out.2⟩
          case measure => simp [intOf]; omega
      · have q1 : (x.is == 1) = false := by simpa using h1
        have H1 := (show Hid _ from h1)
        clear h1
        go_wp2
        go_roundw
        case rel => exact ⟨i + 1, ka, kn, kc, rfl, by go_num, by omega, by rw [HN.out, decide_eq_false H1.out]; simp; exact HK.out, hbel⟩
        case measure => simp [intOf]; omega
    · obtain rfl : i = m := by omega
      have hi1 : ¬ (i : Int) < (i : Int) := by omega
      have HK := (show Hid _ from hK)
      clear hK
      go_wp2
      go_ret
      have hh := HK.out
      rw [List.take_of_length_le (by omega)] at hh
      exact ⟨⟨ka, kn, kc, rfl, hh⟩, hbel⟩
end Go.Proofs.Ytpdnkbhgobdniaa
