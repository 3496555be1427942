/- What chunk.Check answers, class by class. -/
import Derived.Test.YtlgfbcfogcmdbaaDoorCh1
import Derived.Test.YtlgfbcfogcmdbaaDoorCh2
import Derived.Test.YtlgfbcfogcmdbaaDoorCh3
import Derived.Test.YtlgfbcfogcmdbaaDoorCh4
import Derived.Test.YtlgfbcfogcmdbaaDoorCh9
import Derived.Test.YtlgfbcfogcmdbaaDoorChE
namespace Go.Proofs.YtlgfbcfogcmdbaaDoor
open Go.RowKit
/-- Check's number: are all that stand there told by the value; does it lack data; has it too many; how many bytes. -/
def chkN (q l m : Bool) (n : Nat) : Int := if q && !l then (if m || decide (1468 < n) then 6 else 0) else 2
set_option linter.unusedVariables false in
set_option maxRecDepth 100000 in
set_option maxHeartbeats 1000000 in
theorem check_data (kind flags tsn stream ssn ppid tag room outs ins : Nat) (b1 : Option Addr) (b2 b3 : Nat) (d1 : Option Addr) (d2 d3 : Nat) (p1 : Option Addr) (p2 p3 : Nat) (x1 : Option Addr) (x2 x3 : Nat) (w : World) (hk : kind = 0) (hx : x2 ≤ 281474976710656) :
    Calls Tryd.prog 24 #[.agg #[.int .u8 (kind : Nat), .int .u8 (flags : Nat), .int .u32 (tsn : Nat), .int .u16 (stream : Nat), .int .u16 (ssn : Nat), .int .u32 (ppid : Nat), .int .u32 (tag : Nat), .int .u32 (room : Nat), .int .u16 (outs : Nat), .int .u16 (ins : Nat), .slice b1 b2 b3, .slice d1 d2 d3, .slice p1 p2 p3, .slice x1 x2 x3]] w fun e w' => e = .returned (.int .i64 (chkN (decide (tag = 0 ∧ room = 0 ∧ outs = 0 ∧ ins = 0 ∧ b2 = 0 ∧ d2 = 0 ∧ p2 = 0)) (decide (x2 = 0)) false (4 + (12 + x2) + padN (12 + x2)))) ∧ Below w.heap.size w w' := by
  have hv := fun (W : World) (v : Value) (h : v = .agg #[.int .u8 (kind : Nat), .int .u8 (flags : Nat), .int .u32 (tsn : Nat), .int .u16 (stream : Nat), .int .u16 (ssn : Nat), .int .u32 (ppid : Nat), .int .u32 (tag : Nat), .int .u32 (room : Nat), .int .u16 (outs : Nat), .int .u16 (ins : Nat), .slice b1 b2 b3, .slice d1 d2 d3, .slice p1 p2 p3, .slice x1 x2 x3]) => (show Calls Tryd.prog 26 #[v] W fun e w' => e = .returned (.iface 92 (.agg #[.int .u32 (tsn : Nat), .int .u16 (stream : Nat), .int .u16 (ssn : Nat), .int .u32 (ppid : Nat), .slice x1 x2 x3])) ∧ Below W.heap.size W w' from h ▸ valueOf_data kind flags tsn stream ssn ppid tag room outs ins b1 b2 b3 d1 d2 d3 p1 p2 p3 x1 x2 x3 W hk)
  have hs := fun (W : World) (v : Value) (h : v = .agg #[.int .u8 (kind : Nat), .int .u8 (flags : Nat), .int .u32 (tsn : Nat), .int .u16 (stream : Nat), .int .u16 (ssn : Nat), .int .u32 (ppid : Nat), .int .u32 (tag : Nat), .int .u32 (room : Nat), .int .u16 (outs : Nat), .int .u16 (ins : Nat), .slice b1 b2 b3, .slice d1 d2 d3, .slice p1 p2 p3, .slice x1 x2 x3]) => shapeOf_any kind flags tsn stream ssn ppid tag room outs ins b1 b2 b3 d1 d2 d3 p1 p2 p3 x1 x2 x3 W v h
  have hc := fun (W : World) (v1 v2 v3 : Value) h1 h2 h3 => chunkOf_data kind flags tsn stream ssn ppid tag room outs ins b1 b2 b3 d1 d2 d3 p1 p2 p3 x1 x2 x3 W v1 v2 v3 h1 h2 h3
  have ht := fun (W : World) (v : Value) (h : v = .agg #[.int .u8 (kind : Nat), .int .u8 (flags : Nat), .int .u32 (tsn : Nat), .int .u16 (stream : Nat), .int .u16 (ssn : Nat), .int .u32 (ppid : Nat), .int .u32 0, .int .u32 0, .int .u16 0, .int .u16 0, .slice none 0 0, .slice none 0 0, .slice none 0 0, .slice x1 x2 x3]) => shapeOf_any kind flags tsn stream ssn ppid 0 0 0 0 none 0 0 none 0 0 none 0 0 x1 x2 x3 W v h
  have hl := fun (W : World) (v : Value) (h : v = .iface 92 (.agg #[.int .u32 (tsn : Nat), .int .u16 (stream : Nat), .int .u16 (ssn : Nat), .int .u32 (ppid : Nat), .slice x1 x2 x3])) => lacks_data kind flags tsn stream ssn ppid tag room outs ins b1 b2 b3 d1 d2 d3 p1 p2 p3 x1 x2 x3 W v h
  have hm := fun (W : World) (v : Value) (h : v = .iface 92 (.agg #[.int .u32 (tsn : Nat), .int .u16 (stream : Nat), .int .u16 (ssn : Nat), .int .u32 (ppid : Nat), .slice x1 x2 x3])) => many_data kind flags tsn stream ssn ppid tag room outs ins b1 b2 b3 d1 d2 d3 p1 p2 p3 x1 x2 x3 W v h
  have hg := fun (W : World) => guard_shape tsn ppid tag room stream ssn outs ins b2 d2 p2 x2 tsn ppid 0 0 stream ssn 0 0 0 0 0 x2 (.tmp 7) (.tmp 14) W
  have hq := fun (W : World) => neq_shape tsn ppid tag room stream ssn outs ins b2 d2 p2 x2 tsn ppid 0 0 stream ssn 0 0 0 0 0 x2 W
  by_cases hz : tag = 0 ∧ room = 0 ∧ outs = 0 ∧ ins = 0 ∧ b2 = 0 ∧ d2 = 0 ∧ p2 = 0
  · rw [decide_eq_true hz]
    have he : (!((((tsn : Nat) : Int) == ((tsn : Nat) : Int) && ((ppid : Nat) : Int) == ((ppid : Nat) : Int) && ((tag : Nat) : Int) == 0 && ((room : Nat) : Int) == 0) && (((stream : Nat) : Int) == ((stream : Nat) : Int) && ((ssn : Nat) : Int) == ((ssn : Nat) : Int) && ((outs : Nat) : Int) == 0 && ((ins : Nat) : Int) == 0) && (((b2 : Nat) : Int) == 0 && ((d2 : Nat) : Int) == 0 && ((p2 : Nat) : Int) == 0 && ((x2 : Nat) : Int) == ((x2 : Nat) : Int)))) = false := by
      obtain ⟨rfl, rfl, rfl, rfl, rfl, rfl, rfl⟩ := hz
      simp
    have hq2 := fun W => (hq W).trans (by rw [he])
    cases hL : ((decide (x2 = 0)) : Bool) with
    | true =>
      rw [hL] at hl
      exact check_lacks kind flags _ _ _ _ _ _ _ _ _ _ _ _ _ _ _ _ _ _ _ _ _ _ _ _  _ _ _ w hv hs hc ht hg hq2 hl
    | false =>
      rw [hL] at hl
      have hp := fun (W : World) (v : Value) (h : v = .iface 92 (.agg #[.int .u32 (tsn : Nat), .int .u16 (stream : Nat), .int .u16 (ssn : Nat), .int .u32 (ppid : Nat), .slice x1 x2 x3])) (hb : Below w.heap.size w W) => space_data _ _ _ _ x1 x2 x3 W hx v h
      by_cases hw : 1468 < 4 + (12 + x2) + padN (12 + x2)
      · rw [show chkN true false false (4 + (12 + x2) + padN (12 + x2)) = 6 by unfold chkN; rw [decide_eq_true hw]; rfl]
        exact check_wide kind flags _ _ _ _ _ _ _ _ _ _ _ _ _ _ _ _ _ _ _ _ _ _ _ _  _ _ _ w hv hs hc ht hg hq2 hl hm _ hw hp
      · rw [show chkN true false false (4 + (12 + x2) + padN (12 + x2)) = 0 by unfold chkN; rw [decide_eq_false hw]; rfl]
        exact check_fits kind flags _ _ _ _ _ _ _ _ _ _ _ _ _ _ _ _ _ _ _ _ _ _ _ _  _ _ _ w hv hs hc ht hg hq2 hl hm _ (Nat.le_of_not_lt hw) hp
  · rw [decide_eq_false hz]
    have he : (!((((tsn : Nat) : Int) == ((tsn : Nat) : Int) && ((ppid : Nat) : Int) == ((ppid : Nat) : Int) && ((tag : Nat) : Int) == 0 && ((room : Nat) : Int) == 0) && (((stream : Nat) : Int) == ((stream : Nat) : Int) && ((ssn : Nat) : Int) == ((ssn : Nat) : Int) && ((outs : Nat) : Int) == 0 && ((ins : Nat) : Int) == 0) && (((b2 : Nat) : Int) == 0 && ((d2 : Nat) : Int) == 0 && ((p2 : Nat) : Int) == 0 && ((x2 : Nat) : Int) == ((x2 : Nat) : Int)))) = true := by
      cases hb : ((((tsn : Nat) : Int) == ((tsn : Nat) : Int) && ((ppid : Nat) : Int) == ((ppid : Nat) : Int) && ((tag : Nat) : Int) == 0 && ((room : Nat) : Int) == 0) && (((stream : Nat) : Int) == ((stream : Nat) : Int) && ((ssn : Nat) : Int) == ((ssn : Nat) : Int) && ((outs : Nat) : Int) == 0 && ((ins : Nat) : Int) == 0) && (((b2 : Nat) : Int) == 0 && ((d2 : Nat) : Int) == 0 && ((p2 : Nat) : Int) == 0 && ((x2 : Nat) : Int) == ((x2 : Nat) : Int))) with
      | false => rfl
      | true =>
        exfalso
        simp at hb
        apply hz
        omega
    have hq2 := fun W => (hq W).trans (by rw [he])
    exact check_not kind flags _ _ _ _ _ _ _ _ _ _ _ _ _ _ _ _ _ _ _ _ _ _ _ _  _ _ _ w hv hs hc ht hg hq2
set_option linter.unusedVariables false in
set_option maxRecDepth 100000 in
set_option maxHeartbeats 1000000 in
theorem check_init (kind flags tsn stream ssn ppid tag room outs ins : Nat) (b1 : Option Addr) (b2 b3 : Nat) (d1 : Option Addr) (d2 d3 : Nat) (p1 : Option Addr) (p2 p3 : Nat) (x1 : Option Addr) (x2 x3 : Nat) (w : World) (hk : kind = 1 ∨ kind = 2) (ls : List Nat) (hps : Prs w p1 p2 p3 ls) :
    Calls Tryd.prog 24 #[.agg #[.int .u8 (kind : Nat), .int .u8 (flags : Nat), .int .u32 (tsn : Nat), .int .u16 (stream : Nat), .int .u16 (ssn : Nat), .int .u32 (ppid : Nat), .int .u32 (tag : Nat), .int .u32 (room : Nat), .int .u16 (outs : Nat), .int .u16 (ins : Nat), .slice b1 b2 b3, .slice d1 d2 d3, .slice p1 p2 p3, .slice x1 x2 x3]] w fun e w' => e = .returned (.int .i64 (chkN (decide (stream = 0 ∧ ssn = 0 ∧ ppid = 0 ∧ b2 = 0 ∧ d2 = 0 ∧ x2 = 0)) false (decide (16 < p2)) (4 + (16 + psz ls) + padN (16 + psz ls)))) ∧ Below w.heap.size w w' := by
  have hv := fun (W : World) (v : Value) (h : v = .agg #[.int .u8 (kind : Nat), .int .u8 (flags : Nat), .int .u32 (tsn : Nat), .int .u16 (stream : Nat), .int .u16 (ssn : Nat), .int .u32 (ppid : Nat), .int .u32 (tag : Nat), .int .u32 (room : Nat), .int .u16 (outs : Nat), .int .u16 (ins : Nat), .slice b1 b2 b3, .slice d1 d2 d3, .slice p1 p2 p3, .slice x1 x2 x3]) => (show Calls Tryd.prog 26 #[v] W fun e w' => e = .returned (.iface 95 (.agg #[.int .u32 (tag : Nat), .int .u32 (room : Nat), .int .u16 (outs : Nat), .int .u16 (ins : Nat), .int .u32 (tsn : Nat), .slice p1 p2 p3])) ∧ Below W.heap.size W w' from h ▸ valueOf_init kind flags tsn stream ssn ppid tag room outs ins b1 b2 b3 d1 d2 d3 p1 p2 p3 x1 x2 x3 W hk)
  have hs := fun (W : World) (v : Value) (h : v = .agg #[.int .u8 (kind : Nat), .int .u8 (flags : Nat), .int .u32 (tsn : Nat), .int .u16 (stream : Nat), .int .u16 (ssn : Nat), .int .u32 (ppid : Nat), .int .u32 (tag : Nat), .int .u32 (room : Nat), .int .u16 (outs : Nat), .int .u16 (ins : Nat), .slice b1 b2 b3, .slice d1 d2 d3, .slice p1 p2 p3, .slice x1 x2 x3]) => shapeOf_any kind flags tsn stream ssn ppid tag room outs ins b1 b2 b3 d1 d2 d3 p1 p2 p3 x1 x2 x3 W v h
  have hc := fun (W : World) (v1 v2 v3 : Value) h1 h2 h3 => chunkOf_init kind flags tsn stream ssn ppid tag room outs ins b1 b2 b3 d1 d2 d3 p1 p2 p3 x1 x2 x3 W v1 v2 v3 h1 h2 h3
  have ht := fun (W : World) (v : Value) (h : v = .agg #[.int .u8 (kind : Nat), .int .u8 (flags : Nat), .int .u32 (tsn : Nat), .int .u16 0, .int .u16 0, .int .u32 0, .int .u32 (tag : Nat), .int .u32 (room : Nat), .int .u16 (outs : Nat), .int .u16 (ins : Nat), .slice none 0 0, .slice none 0 0, .slice p1 p2 p3, .slice none 0 0]) => shapeOf_any kind flags tsn 0 0 0 tag room outs ins none 0 0 none 0 0 p1 p2 p3 none 0 0 W v h
  have hl := fun (W : World) (v : Value) (h : v = .iface 95 (.agg #[.int .u32 (tag : Nat), .int .u32 (room : Nat), .int .u16 (outs : Nat), .int .u16 (ins : Nat), .int .u32 (tsn : Nat), .slice p1 p2 p3])) => lacks_init kind flags tsn stream ssn ppid tag room outs ins b1 b2 b3 d1 d2 d3 p1 p2 p3 x1 x2 x3 W v h
  have hm := fun (W : World) (v : Value) (h : v = .iface 95 (.agg #[.int .u32 (tag : Nat), .int .u32 (room : Nat), .int .u16 (outs : Nat), .int .u16 (ins : Nat), .int .u32 (tsn : Nat), .slice p1 p2 p3])) => many_init kind flags tsn stream ssn ppid tag room outs ins b1 b2 b3 d1 d2 d3 p1 p2 p3 x1 x2 x3 W v h
  have hg := fun (W : World) => guard_shape tsn ppid tag room stream ssn outs ins b2 d2 p2 x2 tsn 0 tag room 0 0 outs ins 0 0 p2 0 (.tmp 7) (.tmp 14) W
  have hq := fun (W : World) => neq_shape tsn ppid tag room stream ssn outs ins b2 d2 p2 x2 tsn 0 tag room 0 0 outs ins 0 0 p2 0 W
  by_cases hz : stream = 0 ∧ ssn = 0 ∧ ppid = 0 ∧ b2 = 0 ∧ d2 = 0 ∧ x2 = 0
  · rw [decide_eq_true hz]
    have he : (!((((tsn : Nat) : Int) == ((tsn : Nat) : Int) && ((ppid : Nat) : Int) == 0 && ((tag : Nat) : Int) == ((tag : Nat) : Int) && ((room : Nat) : Int) == ((room : Nat) : Int)) && (((stream : Nat) : Int) == 0 && ((ssn : Nat) : Int) == 0 && ((outs : Nat) : Int) == ((outs : Nat) : Int) && ((ins : Nat) : Int) == ((ins : Nat) : Int)) && (((b2 : Nat) : Int) == 0 && ((d2 : Nat) : Int) == 0 && ((p2 : Nat) : Int) == ((p2 : Nat) : Int) && ((x2 : Nat) : Int) == 0))) = false := by
      obtain ⟨rfl, rfl, rfl, rfl, rfl, rfl⟩ := hz
      simp
    have hq2 := fun W => (hq W).trans (by rw [he])
    cases hM : ((decide (16 < p2)) : Bool) with
    | true =>
      rw [hM] at hm
      exact check_many kind flags _ _ _ _ _ _ _ _ _ _ _ _ _ _ _ _ _ _ _ _ _ _ _ _  _ _ _ w hv hs hc ht hg hq2 hl hm
    | false =>
      rw [hM] at hm
      have hp := fun (W : World) (v : Value) (h : v = .iface 95 (.agg #[.int .u32 (tag : Nat), .int .u32 (room : Nat), .int .u16 (outs : Nat), .int .u16 (ins : Nat), .int .u32 (tsn : Nat), .slice p1 p2 p3])) (hb : Below w.heap.size w W) => space_init _ _ _ _ _ p1 p2 p3 ls W (hps.below hb) (by simpa using hM) v h
      by_cases hw : 1468 < 4 + (16 + psz ls) + padN (16 + psz ls)
      · rw [show chkN true false false (4 + (16 + psz ls) + padN (16 + psz ls)) = 6 by unfold chkN; rw [decide_eq_true hw]; rfl]
        exact check_wide kind flags _ _ _ _ _ _ _ _ _ _ _ _ _ _ _ _ _ _ _ _ _ _ _ _  _ _ _ w hv hs hc ht hg hq2 hl hm _ hw hp
      · rw [show chkN true false false (4 + (16 + psz ls) + padN (16 + psz ls)) = 0 by unfold chkN; rw [decide_eq_false hw]; rfl]
        exact check_fits kind flags _ _ _ _ _ _ _ _ _ _ _ _ _ _ _ _ _ _ _ _ _ _ _ _  _ _ _ w hv hs hc ht hg hq2 hl hm _ (Nat.le_of_not_lt hw) hp
  · rw [decide_eq_false hz]
    have he : (!((((tsn : Nat) : Int) == ((tsn : Nat) : Int) && ((ppid : Nat) : Int) == 0 && ((tag : Nat) : Int) == ((tag : Nat) : Int) && ((room : Nat) : Int) == ((room : Nat) : Int)) && (((stream : Nat) : Int) == 0 && ((ssn : Nat) : Int) == 0 && ((outs : Nat) : Int) == ((outs : Nat) : Int) && ((ins : Nat) : Int) == ((ins : Nat) : Int)) && (((b2 : Nat) : Int) == 0 && ((d2 : Nat) : Int) == 0 && ((p2 : Nat) : Int) == ((p2 : Nat) : Int) && ((x2 : Nat) : Int) == 0))) = true := by
      cases hb : ((((tsn : Nat) : Int) == ((tsn : Nat) : Int) && ((ppid : Nat) : Int) == 0 && ((tag : Nat) : Int) == ((tag : Nat) : Int) && ((room : Nat) : Int) == ((room : Nat) : Int)) && (((stream : Nat) : Int) == 0 && ((ssn : Nat) : Int) == 0 && ((outs : Nat) : Int) == ((outs : Nat) : Int) && ((ins : Nat) : Int) == ((ins : Nat) : Int)) && (((b2 : Nat) : Int) == 0 && ((d2 : Nat) : Int) == 0 && ((p2 : Nat) : Int) == ((p2 : Nat) : Int) && ((x2 : Nat) : Int) == 0)) with
      | false => rfl
      | true =>
        exfalso
        simp at hb
        apply hz
        omega
    have hq2 := fun W => (hq W).trans (by rw [he])
    exact check_not kind flags _ _ _ _ _ _ _ _ _ _ _ _ _ _ _ _ _ _ _ _ _ _ _ _  _ _ _ w hv hs hc ht hg hq2
set_option linter.unusedVariables false in
set_option maxRecDepth 100000 in
set_option maxHeartbeats 1000000 in
theorem check_sack (kind flags tsn stream ssn ppid tag room outs ins : Nat) (b1 : Option Addr) (b2 b3 : Nat) (d1 : Option Addr) (d2 d3 : Nat) (p1 : Option Addr) (p2 p3 : Nat) (x1 : Option Addr) (x2 x3 : Nat) (w : World) (hk : kind = 3) (hbl : b2 ≤ 281474976710656) (hdl : d2 ≤ 281474976710656) :
    Calls Tryd.prog 24 #[.agg #[.int .u8 (kind : Nat), .int .u8 (flags : Nat), .int .u32 (tsn : Nat), .int .u16 (stream : Nat), .int .u16 (ssn : Nat), .int .u32 (ppid : Nat), .int .u32 (tag : Nat), .int .u32 (room : Nat), .int .u16 (outs : Nat), .int .u16 (ins : Nat), .slice b1 b2 b3, .slice d1 d2 d3, .slice p1 p2 p3, .slice x1 x2 x3]] w fun e w' => e = .returned (.int .i64 (chkN (decide (stream = 0 ∧ ssn = 0 ∧ ppid = 0 ∧ tag = 0 ∧ outs = 0 ∧ ins = 0 ∧ p2 = 0 ∧ x2 = 0)) false (decide (16 < b2 ∨ 16 < d2)) (4 + (12 + 4 * b2 + 4 * d2) + padN (12 + 4 * b2 + 4 * d2)))) ∧ Below w.heap.size w w' := by
  have hv := fun (W : World) (v : Value) (h : v = .agg #[.int .u8 (kind : Nat), .int .u8 (flags : Nat), .int .u32 (tsn : Nat), .int .u16 (stream : Nat), .int .u16 (ssn : Nat), .int .u32 (ppid : Nat), .int .u32 (tag : Nat), .int .u32 (room : Nat), .int .u16 (outs : Nat), .int .u16 (ins : Nat), .slice b1 b2 b3, .slice d1 d2 d3, .slice p1 p2 p3, .slice x1 x2 x3]) => (show Calls Tryd.prog 26 #[v] W fun e w' => e = .returned (.iface 97 (.agg #[.int .u32 (tsn : Nat), .int .u32 (room : Nat), .slice b1 b2 b3, .slice d1 d2 d3])) ∧ Below W.heap.size W w' from h ▸ valueOf_sack kind flags tsn stream ssn ppid tag room outs ins b1 b2 b3 d1 d2 d3 p1 p2 p3 x1 x2 x3 W hk)
  have hs := fun (W : World) (v : Value) (h : v = .agg #[.int .u8 (kind : Nat), .int .u8 (flags : Nat), .int .u32 (tsn : Nat), .int .u16 (stream : Nat), .int .u16 (ssn : Nat), .int .u32 (ppid : Nat), .int .u32 (tag : Nat), .int .u32 (room : Nat), .int .u16 (outs : Nat), .int .u16 (ins : Nat), .slice b1 b2 b3, .slice d1 d2 d3, .slice p1 p2 p3, .slice x1 x2 x3]) => shapeOf_any kind flags tsn stream ssn ppid tag room outs ins b1 b2 b3 d1 d2 d3 p1 p2 p3 x1 x2 x3 W v h
  have hc := fun (W : World) (v1 v2 v3 : Value) h1 h2 h3 => chunkOf_sack kind flags tsn stream ssn ppid tag room outs ins b1 b2 b3 d1 d2 d3 p1 p2 p3 x1 x2 x3 W v1 v2 v3 h1 h2 h3
  have ht := fun (W : World) (v : Value) (h : v = .agg #[.int .u8 (kind : Nat), .int .u8 (flags : Nat), .int .u32 (tsn : Nat), .int .u16 0, .int .u16 0, .int .u32 0, .int .u32 0, .int .u32 (room : Nat), .int .u16 0, .int .u16 0, .slice b1 b2 b3, .slice d1 d2 d3, .slice none 0 0, .slice none 0 0]) => shapeOf_any kind flags tsn 0 0 0 0 room 0 0 b1 b2 b3 d1 d2 d3 none 0 0 none 0 0 W v h
  have hl := fun (W : World) (v : Value) (h : v = .iface 97 (.agg #[.int .u32 (tsn : Nat), .int .u32 (room : Nat), .slice b1 b2 b3, .slice d1 d2 d3])) => lacks_sack kind flags tsn stream ssn ppid tag room outs ins b1 b2 b3 d1 d2 d3 p1 p2 p3 x1 x2 x3 W v h
  have hm := fun (W : World) (v : Value) (h : v = .iface 97 (.agg #[.int .u32 (tsn : Nat), .int .u32 (room : Nat), .slice b1 b2 b3, .slice d1 d2 d3])) => many_sack kind flags tsn stream ssn ppid tag room outs ins b1 b2 b3 d1 d2 d3 p1 p2 p3 x1 x2 x3 W v h
  have hg := fun (W : World) => guard_shape tsn ppid tag room stream ssn outs ins b2 d2 p2 x2 tsn 0 0 room 0 0 0 0 b2 d2 0 0 (.tmp 7) (.tmp 14) W
  have hq := fun (W : World) => neq_shape tsn ppid tag room stream ssn outs ins b2 d2 p2 x2 tsn 0 0 room 0 0 0 0 b2 d2 0 0 W
  by_cases hz : stream = 0 ∧ ssn = 0 ∧ ppid = 0 ∧ tag = 0 ∧ outs = 0 ∧ ins = 0 ∧ p2 = 0 ∧ x2 = 0
  · rw [decide_eq_true hz]
    have he : (!((((tsn : Nat) : Int) == ((tsn : Nat) : Int) && ((ppid : Nat) : Int) == 0 && ((tag : Nat) : Int) == 0 && ((room : Nat) : Int) == ((room : Nat) : Int)) && (((stream : Nat) : Int) == 0 && ((ssn : Nat) : Int) == 0 && ((outs : Nat) : Int) == 0 && ((ins : Nat) : Int) == 0) && (((b2 : Nat) : Int) == ((b2 : Nat) : Int) && ((d2 : Nat) : Int) == ((d2 : Nat) : Int) && ((p2 : Nat) : Int) == 0 && ((x2 : Nat) : Int) == 0))) = false := by
      obtain ⟨rfl, rfl, rfl, rfl, rfl, rfl, rfl, rfl⟩ := hz
      simp
    have hq2 := fun W => (hq W).trans (by rw [he])
    cases hM : ((decide (16 < b2 ∨ 16 < d2)) : Bool) with
    | true =>
      rw [hM] at hm
      exact check_many kind flags _ _ _ _ _ _ _ _ _ _ _ _ _ _ _ _ _ _ _ _ _ _ _ _  _ _ _ w hv hs hc ht hg hq2 hl hm
    | false =>
      rw [hM] at hm
      have hp := fun (W : World) (v : Value) (h : v = .iface 97 (.agg #[.int .u32 (tsn : Nat), .int .u32 (room : Nat), .slice b1 b2 b3, .slice d1 d2 d3])) (hb : Below w.heap.size w W) => space_sack _ _ b1 b2 b3 d1 d2 d3 W hbl hdl v h
      by_cases hw : 1468 < 4 + (12 + 4 * b2 + 4 * d2) + padN (12 + 4 * b2 + 4 * d2)
      · rw [show chkN true false false (4 + (12 + 4 * b2 + 4 * d2) + padN (12 + 4 * b2 + 4 * d2)) = 6 by unfold chkN; rw [decide_eq_true hw]; rfl]
        exact check_wide kind flags _ _ _ _ _ _ _ _ _ _ _ _ _ _ _ _ _ _ _ _ _ _ _ _  _ _ _ w hv hs hc ht hg hq2 hl hm _ hw hp
      · rw [show chkN true false false (4 + (12 + 4 * b2 + 4 * d2) + padN (12 + 4 * b2 + 4 * d2)) = 0 by unfold chkN; rw [decide_eq_false hw]; rfl]
        exact check_fits kind flags _ _ _ _ _ _ _ _ _ _ _ _ _ _ _ _ _ _ _ _ _ _ _ _  _ _ _ w hv hs hc ht hg hq2 hl hm _ (Nat.le_of_not_lt hw) hp
  · rw [decide_eq_false hz]
    have he : (!((((tsn : Nat) : Int) == ((tsn : Nat) : Int) && ((ppid : Nat) : Int) == 0 && ((tag : Nat) : Int) == 0 && ((room : Nat) : Int) == ((room : Nat) : Int)) && (((stream : Nat) : Int) == 0 && ((ssn : Nat) : Int) == 0 && ((outs : Nat) : Int) == 0 && ((ins : Nat) : Int) == 0) && (((b2 : Nat) : Int) == ((b2 : Nat) : Int) && ((d2 : Nat) : Int) == ((d2 : Nat) : Int) && ((p2 : Nat) : Int) == 0 && ((x2 : Nat) : Int) == 0))) = true := by
      cases hb : ((((tsn : Nat) : Int) == ((tsn : Nat) : Int) && ((ppid : Nat) : Int) == 0 && ((tag : Nat) : Int) == 0 && ((room : Nat) : Int) == ((room : Nat) : Int)) && (((stream : Nat) : Int) == 0 && ((ssn : Nat) : Int) == 0 && ((outs : Nat) : Int) == 0 && ((ins : Nat) : Int) == 0) && (((b2 : Nat) : Int) == ((b2 : Nat) : Int) && ((d2 : Nat) : Int) == ((d2 : Nat) : Int) && ((p2 : Nat) : Int) == 0 && ((x2 : Nat) : Int) == 0)) with
      | false => rfl
      | true =>
        exfalso
        simp at hb
        apply hz
        omega
    have hq2 := fun W => (hq W).trans (by rw [he])
    exact check_not kind flags _ _ _ _ _ _ _ _ _ _ _ _ _ _ _ _ _ _ _ _ _ _ _ _  _ _ _ w hv hs hc ht hg hq2
set_option linter.unusedVariables false in
set_option maxRecDepth 100000 in
set_option maxHeartbeats 1000000 in
theorem check_prms (kind flags tsn stream ssn ppid tag room outs ins : Nat) (b1 : Option Addr) (b2 b3 : Nat) (d1 : Option Addr) (d2 d3 : Nat) (p1 : Option Addr) (p2 p3 : Nat) (x1 : Option Addr) (x2 x3 : Nat) (w : World) (hk : kind = 4 ∨ kind = 5 ∨ kind = 6 ∨ kind = 9) (ls : List Nat) (hps : Prs w p1 p2 p3 ls) :
    Calls Tryd.prog 24 #[.agg #[.int .u8 (kind : Nat), .int .u8 (flags : Nat), .int .u32 (tsn : Nat), .int .u16 (stream : Nat), .int .u16 (ssn : Nat), .int .u32 (ppid : Nat), .int .u32 (tag : Nat), .int .u32 (room : Nat), .int .u16 (outs : Nat), .int .u16 (ins : Nat), .slice b1 b2 b3, .slice d1 d2 d3, .slice p1 p2 p3, .slice x1 x2 x3]] w fun e w' => e = .returned (.int .i64 (chkN (decide (tsn = 0 ∧ stream = 0 ∧ ssn = 0 ∧ ppid = 0 ∧ tag = 0 ∧ room = 0 ∧ outs = 0 ∧ ins = 0 ∧ b2 = 0 ∧ d2 = 0 ∧ x2 = 0)) false (decide (16 < p2)) (4 + (psz ls) + padN (psz ls)))) ∧ Below w.heap.size w w' := by
  have hv := fun (W : World) (v : Value) (h : v = .agg #[.int .u8 (kind : Nat), .int .u8 (flags : Nat), .int .u32 (tsn : Nat), .int .u16 (stream : Nat), .int .u16 (ssn : Nat), .int .u32 (ppid : Nat), .int .u32 (tag : Nat), .int .u32 (room : Nat), .int .u16 (outs : Nat), .int .u16 (ins : Nat), .slice b1 b2 b3, .slice d1 d2 d3, .slice p1 p2 p3, .slice x1 x2 x3]) => (show Calls Tryd.prog 26 #[v] W fun e w' => e = .returned (.iface 93 (.slice p1 p2 p3)) ∧ Below W.heap.size W w' from h ▸ valueOf_prms kind flags tsn stream ssn ppid tag room outs ins b1 b2 b3 d1 d2 d3 p1 p2 p3 x1 x2 x3 W hk)
  have hs := fun (W : World) (v : Value) (h : v = .agg #[.int .u8 (kind : Nat), .int .u8 (flags : Nat), .int .u32 (tsn : Nat), .int .u16 (stream : Nat), .int .u16 (ssn : Nat), .int .u32 (ppid : Nat), .int .u32 (tag : Nat), .int .u32 (room : Nat), .int .u16 (outs : Nat), .int .u16 (ins : Nat), .slice b1 b2 b3, .slice d1 d2 d3, .slice p1 p2 p3, .slice x1 x2 x3]) => shapeOf_any kind flags tsn stream ssn ppid tag room outs ins b1 b2 b3 d1 d2 d3 p1 p2 p3 x1 x2 x3 W v h
  have hc := fun (W : World) (v1 v2 v3 : Value) h1 h2 h3 => chunkOf_prms kind flags tsn stream ssn ppid tag room outs ins b1 b2 b3 d1 d2 d3 p1 p2 p3 x1 x2 x3 W v1 v2 v3 h1 h2 h3
  have ht := fun (W : World) (v : Value) (h : v = .agg #[.int .u8 (kind : Nat), .int .u8 (flags : Nat), .int .u32 0, .int .u16 0, .int .u16 0, .int .u32 0, .int .u32 0, .int .u32 0, .int .u16 0, .int .u16 0, .slice none 0 0, .slice none 0 0, .slice p1 p2 p3, .slice none 0 0]) => shapeOf_any kind flags 0 0 0 0 0 0 0 0 none 0 0 none 0 0 p1 p2 p3 none 0 0 W v h
  have hl := fun (W : World) (v : Value) (h : v = .iface 93 (.slice p1 p2 p3)) => lacks_prms kind flags tsn stream ssn ppid tag room outs ins b1 b2 b3 d1 d2 d3 p1 p2 p3 x1 x2 x3 W v h
  have hm := fun (W : World) (v : Value) (h : v = .iface 93 (.slice p1 p2 p3)) => many_prms kind flags tsn stream ssn ppid tag room outs ins b1 b2 b3 d1 d2 d3 p1 p2 p3 x1 x2 x3 W v h
  have hg := fun (W : World) => guard_shape tsn ppid tag room stream ssn outs ins b2 d2 p2 x2 0 0 0 0 0 0 0 0 0 0 p2 0 (.tmp 7) (.tmp 14) W
  have hq := fun (W : World) => neq_shape tsn ppid tag room stream ssn outs ins b2 d2 p2 x2 0 0 0 0 0 0 0 0 0 0 p2 0 W
  by_cases hz : tsn = 0 ∧ stream = 0 ∧ ssn = 0 ∧ ppid = 0 ∧ tag = 0 ∧ room = 0 ∧ outs = 0 ∧ ins = 0 ∧ b2 = 0 ∧ d2 = 0 ∧ x2 = 0
  · rw [decide_eq_true hz]
    have he : (!((((tsn : Nat) : Int) == 0 && ((ppid : Nat) : Int) == 0 && ((tag : Nat) : Int) == 0 && ((room : Nat) : Int) == 0) && (((stream : Nat) : Int) == 0 && ((ssn : Nat) : Int) == 0 && ((outs : Nat) : Int) == 0 && ((ins : Nat) : Int) == 0) && (((b2 : Nat) : Int) == 0 && ((d2 : Nat) : Int) == 0 && ((p2 : Nat) : Int) == ((p2 : Nat) : Int) && ((x2 : Nat) : Int) == 0))) = false := by
      obtain ⟨rfl, rfl, rfl, rfl, rfl, rfl, rfl, rfl, rfl, rfl, rfl⟩ := hz
      simp
    have hq2 := fun W => (hq W).trans (by rw [he])
    cases hM : ((decide (16 < p2)) : Bool) with
    | true =>
      rw [hM] at hm
      exact check_many kind flags _ _ _ _ _ _ _ _ _ _ _ _ _ _ _ _ _ _ _ _ _ _ _ _  _ _ _ w hv hs hc ht hg hq2 hl hm
    | false =>
      rw [hM] at hm
      have hp := fun (W : World) (v : Value) (h : v = .iface 93 (.slice p1 p2 p3)) (hb : Below w.heap.size w W) => space_prms p1 p2 p3 ls W (hps.below hb) (by simpa using hM) v h
      by_cases hw : 1468 < 4 + (psz ls) + padN (psz ls)
      · rw [show chkN true false false (4 + (psz ls) + padN (psz ls)) = 6 by unfold chkN; rw [decide_eq_true hw]; rfl]
        exact check_wide kind flags _ _ _ _ _ _ _ _ _ _ _ _ _ _ _ _ _ _ _ _ _ _ _ _  _ _ _ w hv hs hc ht hg hq2 hl hm _ hw hp
      · rw [show chkN true false false (4 + (psz ls) + padN (psz ls)) = 0 by unfold chkN; rw [decide_eq_false hw]; rfl]
        exact check_fits kind flags _ _ _ _ _ _ _ _ _ _ _ _ _ _ _ _ _ _ _ _ _ _ _ _  _ _ _ w hv hs hc ht hg hq2 hl hm _ (Nat.le_of_not_lt hw) hp
  · rw [decide_eq_false hz]
    have he : (!((((tsn : Nat) : Int) == 0 && ((ppid : Nat) : Int) == 0 && ((tag : Nat) : Int) == 0 && ((room : Nat) : Int) == 0) && (((stream : Nat) : Int) == 0 && ((ssn : Nat) : Int) == 0 && ((outs : Nat) : Int) == 0 && ((ins : Nat) : Int) == 0) && (((b2 : Nat) : Int) == 0 && ((d2 : Nat) : Int) == 0 && ((p2 : Nat) : Int) == ((p2 : Nat) : Int) && ((x2 : Nat) : Int) == 0))) = true := by
      cases hb : ((((tsn : Nat) : Int) == 0 && ((ppid : Nat) : Int) == 0 && ((tag : Nat) : Int) == 0 && ((room : Nat) : Int) == 0) && (((stream : Nat) : Int) == 0 && ((ssn : Nat) : Int) == 0 && ((outs : Nat) : Int) == 0 && ((ins : Nat) : Int) == 0) && (((b2 : Nat) : Int) == 0 && ((d2 : Nat) : Int) == 0 && ((p2 : Nat) : Int) == ((p2 : Nat) : Int) && ((x2 : Nat) : Int) == 0)) with
      | false => rfl
      | true =>
        exfalso
        simp at hb
        apply hz
        omega
    have hq2 := fun W => (hq W).trans (by rw [he])
    exact check_not kind flags _ _ _ _ _ _ _ _ _ _ _ _ _ _ _ _ _ _ _ _ _ _ _ _  _ _ _ w hv hs hc ht hg hq2
set_option linter.unusedVariables false in
set_option maxRecDepth 100000 in
set_option maxHeartbeats 1000000 in
theorem check_tsnv (kind flags tsn stream ssn ppid tag room outs ins : Nat) (b1 : Option Addr) (b2 b3 : Nat) (d1 : Option Addr) (d2 d3 : Nat) (p1 : Option Addr) (p2 p3 : Nat) (x1 : Option Addr) (x2 x3 : Nat) (w : World) (hk : kind = 7) :
    Calls Tryd.prog 24 #[.agg #[.int .u8 (kind : Nat), .int .u8 (flags : Nat), .int .u32 (tsn : Nat), .int .u16 (stream : Nat), .int .u16 (ssn : Nat), .int .u32 (ppid : Nat), .int .u32 (tag : Nat), .int .u32 (room : Nat), .int .u16 (outs : Nat), .int .u16 (ins : Nat), .slice b1 b2 b3, .slice d1 d2 d3, .slice p1 p2 p3, .slice x1 x2 x3]] w fun e w' => e = .returned (.int .i64 (chkN (decide (stream = 0 ∧ ssn = 0 ∧ ppid = 0 ∧ tag = 0 ∧ room = 0 ∧ outs = 0 ∧ ins = 0 ∧ b2 = 0 ∧ d2 = 0 ∧ p2 = 0 ∧ x2 = 0)) false false (8))) ∧ Below w.heap.size w w' := by
  have hv := fun (W : World) (v : Value) (h : v = .agg #[.int .u8 (kind : Nat), .int .u8 (flags : Nat), .int .u32 (tsn : Nat), .int .u16 (stream : Nat), .int .u16 (ssn : Nat), .int .u32 (ppid : Nat), .int .u32 (tag : Nat), .int .u32 (room : Nat), .int .u16 (outs : Nat), .int .u16 (ins : Nat), .slice b1 b2 b3, .slice d1 d2 d3, .slice p1 p2 p3, .slice x1 x2 x3]) => (show Calls Tryd.prog 26 #[v] W fun e w' => e = .returned (.iface 98 (.int .u32 (tsn : Nat))) ∧ Below W.heap.size W w' from h ▸ valueOf_tsnv kind flags tsn stream ssn ppid tag room outs ins b1 b2 b3 d1 d2 d3 p1 p2 p3 x1 x2 x3 W hk)
  have hs := fun (W : World) (v : Value) (h : v = .agg #[.int .u8 (kind : Nat), .int .u8 (flags : Nat), .int .u32 (tsn : Nat), .int .u16 (stream : Nat), .int .u16 (ssn : Nat), .int .u32 (ppid : Nat), .int .u32 (tag : Nat), .int .u32 (room : Nat), .int .u16 (outs : Nat), .int .u16 (ins : Nat), .slice b1 b2 b3, .slice d1 d2 d3, .slice p1 p2 p3, .slice x1 x2 x3]) => shapeOf_any kind flags tsn stream ssn ppid tag room outs ins b1 b2 b3 d1 d2 d3 p1 p2 p3 x1 x2 x3 W v h
  have hc := fun (W : World) (v1 v2 v3 : Value) h1 h2 h3 => chunkOf_tsnv kind flags tsn stream ssn ppid tag room outs ins b1 b2 b3 d1 d2 d3 p1 p2 p3 x1 x2 x3 W v1 v2 v3 h1 h2 h3
  have ht := fun (W : World) (v : Value) (h : v = .agg #[.int .u8 (kind : Nat), .int .u8 (flags : Nat), .int .u32 (tsn : Nat), .int .u16 0, .int .u16 0, .int .u32 0, .int .u32 0, .int .u32 0, .int .u16 0, .int .u16 0, .slice none 0 0, .slice none 0 0, .slice none 0 0, .slice none 0 0]) => shapeOf_any kind flags tsn 0 0 0 0 0 0 0 none 0 0 none 0 0 none 0 0 none 0 0 W v h
  have hl := fun (W : World) (v : Value) (h : v = .iface 98 (.int .u32 (tsn : Nat))) => lacks_tsnv kind flags tsn stream ssn ppid tag room outs ins b1 b2 b3 d1 d2 d3 p1 p2 p3 x1 x2 x3 W v h
  have hm := fun (W : World) (v : Value) (h : v = .iface 98 (.int .u32 (tsn : Nat))) => many_tsnv kind flags tsn stream ssn ppid tag room outs ins b1 b2 b3 d1 d2 d3 p1 p2 p3 x1 x2 x3 W v h
  have hg := fun (W : World) => guard_shape tsn ppid tag room stream ssn outs ins b2 d2 p2 x2 tsn 0 0 0 0 0 0 0 0 0 0 0 (.tmp 7) (.tmp 14) W
  have hq := fun (W : World) => neq_shape tsn ppid tag room stream ssn outs ins b2 d2 p2 x2 tsn 0 0 0 0 0 0 0 0 0 0 0 W
  by_cases hz : stream = 0 ∧ ssn = 0 ∧ ppid = 0 ∧ tag = 0 ∧ room = 0 ∧ outs = 0 ∧ ins = 0 ∧ b2 = 0 ∧ d2 = 0 ∧ p2 = 0 ∧ x2 = 0
  · rw [decide_eq_true hz]
    have he : (!((((tsn : Nat) : Int) == ((tsn : Nat) : Int) && ((ppid : Nat) : Int) == 0 && ((tag : Nat) : Int) == 0 && ((room : Nat) : Int) == 0) && (((stream : Nat) : Int) == 0 && ((ssn : Nat) : Int) == 0 && ((outs : Nat) : Int) == 0 && ((ins : Nat) : Int) == 0) && (((b2 : Nat) : Int) == 0 && ((d2 : Nat) : Int) == 0 && ((p2 : Nat) : Int) == 0 && ((x2 : Nat) : Int) == 0))) = false := by
      obtain ⟨rfl, rfl, rfl, rfl, rfl, rfl, rfl, rfl, rfl, rfl, rfl⟩ := hz
      simp
    have hq2 := fun W => (hq W).trans (by rw [he])
    have hp := fun (W : World) (v : Value) (h : v = .iface 98 (.int .u32 (tsn : Nat))) (hb : Below w.heap.size w W) => space_tsnv tsn W v h
    by_cases hw : 1468 < 8
    · rw [show chkN true false false (8) = 6 by unfold chkN; rw [decide_eq_true hw]; rfl]
      exact check_wide kind flags _ _ _ _ _ _ _ _ _ _ _ _ _ _ _ _ _ _ _ _ _ _ _ _  _ _ _ w hv hs hc ht hg hq2 hl hm _ hw hp
    · rw [show chkN true false false (8) = 0 by unfold chkN; rw [decide_eq_false hw]; rfl]
      exact check_fits kind flags _ _ _ _ _ _ _ _ _ _ _ _ _ _ _ _ _ _ _ _ _ _ _ _  _ _ _ w hv hs hc ht hg hq2 hl hm _ (Nat.le_of_not_lt hw) hp
  · rw [decide_eq_false hz]
    have he : (!((((tsn : Nat) : Int) == ((tsn : Nat) : Int) && ((ppid : Nat) : Int) == 0 && ((tag : Nat) : Int) == 0 && ((room : Nat) : Int) == 0) && (((stream : Nat) : Int) == 0 && ((ssn : Nat) : Int) == 0 && ((outs : Nat) : Int) == 0 && ((ins : Nat) : Int) == 0) && (((b2 : Nat) : Int) == 0 && ((d2 : Nat) : Int) == 0 && ((p2 : Nat) : Int) == 0 && ((x2 : Nat) : Int) == 0))) = true := by
      cases hb : ((((tsn : Nat) : Int) == ((tsn : Nat) : Int) && ((ppid : Nat) : Int) == 0 && ((tag : Nat) : Int) == 0 && ((room : Nat) : Int) == 0) && (((stream : Nat) : Int) == 0 && ((ssn : Nat) : Int) == 0 && ((outs : Nat) : Int) == 0 && ((ins : Nat) : Int) == 0) && (((b2 : Nat) : Int) == 0 && ((d2 : Nat) : Int) == 0 && ((p2 : Nat) : Int) == 0 && ((x2 : Nat) : Int) == 0)) with
      | false => rfl
      | true =>
        exfalso
        simp at hb
        apply hz
        omega
    have hq2 := fun W => (hq W).trans (by rw [he])
    exact check_not kind flags _ _ _ _ _ _ _ _ _ _ _ _ _ _ _ _ _ _ _ _ _ _ _ _  _ _ _ w hv hs hc ht hg hq2
set_option linter.unusedVariables false in
set_option maxRecDepth 100000 in
set_option maxHeartbeats 1000000 in
theorem check_none (kind flags tsn stream ssn ppid tag room outs ins : Nat) (b1 : Option Addr) (b2 b3 : Nat) (d1 : Option Addr) (d2 d3 : Nat) (p1 : Option Addr) (p2 p3 : Nat) (x1 : Option Addr) (x2 x3 : Nat) (w : World) (hk : kind = 8 ∨ kind = 11 ∨ kind = 14) :
    Calls Tryd.prog 24 #[.agg #[.int .u8 (kind : Nat), .int .u8 (flags : Nat), .int .u32 (tsn : Nat), .int .u16 (stream : Nat), .int .u16 (ssn : Nat), .int .u32 (ppid : Nat), .int .u32 (tag : Nat), .int .u32 (room : Nat), .int .u16 (outs : Nat), .int .u16 (ins : Nat), .slice b1 b2 b3, .slice d1 d2 d3, .slice p1 p2 p3, .slice x1 x2 x3]] w fun e w' => e = .returned (.int .i64 (chkN (decide (tsn = 0 ∧ stream = 0 ∧ ssn = 0 ∧ ppid = 0 ∧ tag = 0 ∧ room = 0 ∧ outs = 0 ∧ ins = 0 ∧ b2 = 0 ∧ d2 = 0 ∧ p2 = 0 ∧ x2 = 0)) false false (4))) ∧ Below w.heap.size w w' := by
  have hv := fun (W : World) (v : Value) (h : v = .agg #[.int .u8 (kind : Nat), .int .u8 (flags : Nat), .int .u32 (tsn : Nat), .int .u16 (stream : Nat), .int .u16 (ssn : Nat), .int .u32 (ppid : Nat), .int .u32 (tag : Nat), .int .u32 (room : Nat), .int .u16 (outs : Nat), .int .u16 (ins : Nat), .slice b1 b2 b3, .slice d1 d2 d3, .slice p1 p2 p3, .slice x1 x2 x3]) => (show Calls Tryd.prog 26 #[v] W fun e w' => e = .returned (.iface 100 (.agg #[])) ∧ Below W.heap.size W w' from h ▸ valueOf_none kind flags tsn stream ssn ppid tag room outs ins b1 b2 b3 d1 d2 d3 p1 p2 p3 x1 x2 x3 W hk)
  have hs := fun (W : World) (v : Value) (h : v = .agg #[.int .u8 (kind : Nat), .int .u8 (flags : Nat), .int .u32 (tsn : Nat), .int .u16 (stream : Nat), .int .u16 (ssn : Nat), .int .u32 (ppid : Nat), .int .u32 (tag : Nat), .int .u32 (room : Nat), .int .u16 (outs : Nat), .int .u16 (ins : Nat), .slice b1 b2 b3, .slice d1 d2 d3, .slice p1 p2 p3, .slice x1 x2 x3]) => shapeOf_any kind flags tsn stream ssn ppid tag room outs ins b1 b2 b3 d1 d2 d3 p1 p2 p3 x1 x2 x3 W v h
  have hc := fun (W : World) (v1 v2 v3 : Value) h1 h2 h3 => chunkOf_none kind flags tsn stream ssn ppid tag room outs ins b1 b2 b3 d1 d2 d3 p1 p2 p3 x1 x2 x3 W v1 v2 v3 h1 h2 h3
  have ht := fun (W : World) (v : Value) (h : v = .agg #[.int .u8 (kind : Nat), .int .u8 (flags : Nat), .int .u32 0, .int .u16 0, .int .u16 0, .int .u32 0, .int .u32 0, .int .u32 0, .int .u16 0, .int .u16 0, .slice none 0 0, .slice none 0 0, .slice none 0 0, .slice none 0 0]) => shapeOf_any kind flags 0 0 0 0 0 0 0 0 none 0 0 none 0 0 none 0 0 none 0 0 W v h
  have hl := fun (W : World) (v : Value) (h : v = .iface 100 (.agg #[])) => lacks_none kind flags tsn stream ssn ppid tag room outs ins b1 b2 b3 d1 d2 d3 p1 p2 p3 x1 x2 x3 W v h
  have hm := fun (W : World) (v : Value) (h : v = .iface 100 (.agg #[])) => many_none kind flags tsn stream ssn ppid tag room outs ins b1 b2 b3 d1 d2 d3 p1 p2 p3 x1 x2 x3 W v h
  have hg := fun (W : World) => guard_shape tsn ppid tag room stream ssn outs ins b2 d2 p2 x2 0 0 0 0 0 0 0 0 0 0 0 0 (.tmp 7) (.tmp 14) W
  have hq := fun (W : World) => neq_shape tsn ppid tag room stream ssn outs ins b2 d2 p2 x2 0 0 0 0 0 0 0 0 0 0 0 0 W
  by_cases hz : tsn = 0 ∧ stream = 0 ∧ ssn = 0 ∧ ppid = 0 ∧ tag = 0 ∧ room = 0 ∧ outs = 0 ∧ ins = 0 ∧ b2 = 0 ∧ d2 = 0 ∧ p2 = 0 ∧ x2 = 0
  · rw [decide_eq_true hz]
    have he : (!((((tsn : Nat) : Int) == 0 && ((ppid : Nat) : Int) == 0 && ((tag : Nat) : Int) == 0 && ((room : Nat) : Int) == 0) && (((stream : Nat) : Int) == 0 && ((ssn : Nat) : Int) == 0 && ((outs : Nat) : Int) == 0 && ((ins : Nat) : Int) == 0) && (((b2 : Nat) : Int) == 0 && ((d2 : Nat) : Int) == 0 && ((p2 : Nat) : Int) == 0 && ((x2 : Nat) : Int) == 0))) = false := by
      obtain ⟨rfl, rfl, rfl, rfl, rfl, rfl, rfl, rfl, rfl, rfl, rfl, rfl⟩ := hz
      simp
    have hq2 := fun W => (hq W).trans (by rw [he])
    have hp := fun (W : World) (v : Value) (h : v = .iface 100 (.agg #[])) (hb : Below w.heap.size w W) => space_none W v h
    by_cases hw : 1468 < 4
    · rw [show chkN true false false (4) = 6 by unfold chkN; rw [decide_eq_true hw]; rfl]
      exact check_wide kind flags _ _ _ _ _ _ _ _ _ _ _ _ _ _ _ _ _ _ _ _ _ _ _ _  _ _ _ w hv hs hc ht hg hq2 hl hm _ hw hp
    · rw [show chkN true false false (4) = 0 by unfold chkN; rw [decide_eq_false hw]; rfl]
      exact check_fits kind flags _ _ _ _ _ _ _ _ _ _ _ _ _ _ _ _ _ _ _ _ _ _ _ _  _ _ _ w hv hs hc ht hg hq2 hl hm _ (Nat.le_of_not_lt hw) hp
  · rw [decide_eq_false hz]
    have he : (!((((tsn : Nat) : Int) == 0 && ((ppid : Nat) : Int) == 0 && ((tag : Nat) : Int) == 0 && ((room : Nat) : Int) == 0) && (((stream : Nat) : Int) == 0 && ((ssn : Nat) : Int) == 0 && ((outs : Nat) : Int) == 0 && ((ins : Nat) : Int) == 0) && (((b2 : Nat) : Int) == 0 && ((d2 : Nat) : Int) == 0 && ((p2 : Nat) : Int) == 0 && ((x2 : Nat) : Int) == 0))) = true := by
      cases hb : ((((tsn : Nat) : Int) == 0 && ((ppid : Nat) : Int) == 0 && ((tag : Nat) : Int) == 0 && ((room : Nat) : Int) == 0) && (((stream : Nat) : Int) == 0 && ((ssn : Nat) : Int) == 0 && ((outs : Nat) : Int) == 0 && ((ins : Nat) : Int) == 0) && (((b2 : Nat) : Int) == 0 && ((d2 : Nat) : Int) == 0 && ((p2 : Nat) : Int) == 0 && ((x2 : Nat) : Int) == 0)) with
      | false => rfl
      | true =>
        exfalso
        simp at hb
        apply hz
        omega
    have hq2 := fun W => (hq W).trans (by rw [he])
    exact check_not kind flags _ _ _ _ _ _ _ _ _ _ _ _ _ _ _ _ _ _ _ _ _ _ _ _  _ _ _ w hv hs hc ht hg hq2
set_option linter.unusedVariables false in
set_option maxRecDepth 100000 in
set_option maxHeartbeats 1000000 in
theorem check_raw (kind flags tsn stream ssn ppid tag room outs ins : Nat) (b1 : Option Addr) (b2 b3 : Nat) (d1 : Option Addr) (d2 d3 : Nat) (p1 : Option Addr) (p2 p3 : Nat) (x1 : Option Addr) (x2 x3 : Nat) (w : World) (hk : ¬ kind = 0 ∧ ¬ kind = 1 ∧ ¬ kind = 2 ∧ ¬ kind = 3 ∧ ¬ kind = 4 ∧ ¬ kind = 5 ∧ ¬ kind = 6 ∧ ¬ kind = 7 ∧ ¬ kind = 8 ∧ ¬ kind = 9 ∧ ¬ kind = 11 ∧ ¬ kind = 14) (hx : x2 ≤ 281474976710656) :
    Calls Tryd.prog 24 #[.agg #[.int .u8 (kind : Nat), .int .u8 (flags : Nat), .int .u32 (tsn : Nat), .int .u16 (stream : Nat), .int .u16 (ssn : Nat), .int .u32 (ppid : Nat), .int .u32 (tag : Nat), .int .u32 (room : Nat), .int .u16 (outs : Nat), .int .u16 (ins : Nat), .slice b1 b2 b3, .slice d1 d2 d3, .slice p1 p2 p3, .slice x1 x2 x3]] w fun e w' => e = .returned (.int .i64 (chkN (decide (tsn = 0 ∧ stream = 0 ∧ ssn = 0 ∧ ppid = 0 ∧ tag = 0 ∧ room = 0 ∧ outs = 0 ∧ ins = 0 ∧ b2 = 0 ∧ d2 = 0 ∧ p2 = 0)) false false (4 + x2 + padN x2))) ∧ Below w.heap.size w w' := by
  have hv := fun (W : World) (v : Value) (h : v = .agg #[.int .u8 (kind : Nat), .int .u8 (flags : Nat), .int .u32 (tsn : Nat), .int .u16 (stream : Nat), .int .u16 (ssn : Nat), .int .u32 (ppid : Nat), .int .u32 (tag : Nat), .int .u32 (room : Nat), .int .u16 (outs : Nat), .int .u16 (ins : Nat), .slice b1 b2 b3, .slice d1 d2 d3, .slice p1 p2 p3, .slice x1 x2 x3]) => (show Calls Tryd.prog 26 #[v] W fun e w' => e = .returned (.iface 101 (.slice x1 x2 x3)) ∧ Below W.heap.size W w' from h ▸ valueOf_raw kind flags tsn stream ssn ppid tag room outs ins b1 b2 b3 d1 d2 d3 p1 p2 p3 x1 x2 x3 W hk)
  have hs := fun (W : World) (v : Value) (h : v = .agg #[.int .u8 (kind : Nat), .int .u8 (flags : Nat), .int .u32 (tsn : Nat), .int .u16 (stream : Nat), .int .u16 (ssn : Nat), .int .u32 (ppid : Nat), .int .u32 (tag : Nat), .int .u32 (room : Nat), .int .u16 (outs : Nat), .int .u16 (ins : Nat), .slice b1 b2 b3, .slice d1 d2 d3, .slice p1 p2 p3, .slice x1 x2 x3]) => shapeOf_any kind flags tsn stream ssn ppid tag room outs ins b1 b2 b3 d1 d2 d3 p1 p2 p3 x1 x2 x3 W v h
  have hc := fun (W : World) (v1 v2 v3 : Value) h1 h2 h3 => chunkOf_raw kind flags tsn stream ssn ppid tag room outs ins b1 b2 b3 d1 d2 d3 p1 p2 p3 x1 x2 x3 W v1 v2 v3 h1 h2 h3
  have ht := fun (W : World) (v : Value) (h : v = .agg #[.int .u8 (kind : Nat), .int .u8 (flags : Nat), .int .u32 0, .int .u16 0, .int .u16 0, .int .u32 0, .int .u32 0, .int .u32 0, .int .u16 0, .int .u16 0, .slice none 0 0, .slice none 0 0, .slice none 0 0, .slice x1 x2 x3]) => shapeOf_any kind flags 0 0 0 0 0 0 0 0 none 0 0 none 0 0 none 0 0 x1 x2 x3 W v h
  have hl := fun (W : World) (v : Value) (h : v = .iface 101 (.slice x1 x2 x3)) => lacks_raw kind flags tsn stream ssn ppid tag room outs ins b1 b2 b3 d1 d2 d3 p1 p2 p3 x1 x2 x3 W v h
  have hm := fun (W : World) (v : Value) (h : v = .iface 101 (.slice x1 x2 x3)) => many_raw kind flags tsn stream ssn ppid tag room outs ins b1 b2 b3 d1 d2 d3 p1 p2 p3 x1 x2 x3 W v h
  have hg := fun (W : World) => guard_shape tsn ppid tag room stream ssn outs ins b2 d2 p2 x2 0 0 0 0 0 0 0 0 0 0 0 x2 (.tmp 7) (.tmp 14) W
  have hq := fun (W : World) => neq_shape tsn ppid tag room stream ssn outs ins b2 d2 p2 x2 0 0 0 0 0 0 0 0 0 0 0 x2 W
  by_cases hz : tsn = 0 ∧ stream = 0 ∧ ssn = 0 ∧ ppid = 0 ∧ tag = 0 ∧ room = 0 ∧ outs = 0 ∧ ins = 0 ∧ b2 = 0 ∧ d2 = 0 ∧ p2 = 0
  · rw [decide_eq_true hz]
    have he : (!((((tsn : Nat) : Int) == 0 && ((ppid : Nat) : Int) == 0 && ((tag : Nat) : Int) == 0 && ((room : Nat) : Int) == 0) && (((stream : Nat) : Int) == 0 && ((ssn : Nat) : Int) == 0 && ((outs : Nat) : Int) == 0 && ((ins : Nat) : Int) == 0) && (((b2 : Nat) : Int) == 0 && ((d2 : Nat) : Int) == 0 && ((p2 : Nat) : Int) == 0 && ((x2 : Nat) : Int) == ((x2 : Nat) : Int)))) = false := by
      obtain ⟨rfl, rfl, rfl, rfl, rfl, rfl, rfl, rfl, rfl, rfl, rfl⟩ := hz
      simp
    have hq2 := fun W => (hq W).trans (by rw [he])
    have hp := fun (W : World) (v : Value) (h : v = .iface 101 (.slice x1 x2 x3)) (hb : Below w.heap.size w W) => space_raw x1 x2 x3 W hx v h
    by_cases hw : 1468 < 4 + x2 + padN x2
    · rw [show chkN true false false (4 + x2 + padN x2) = 6 by unfold chkN; rw [decide_eq_true hw]; rfl]
      exact check_wide kind flags _ _ _ _ _ _ _ _ _ _ _ _ _ _ _ _ _ _ _ _ _ _ _ _  _ _ _ w hv hs hc ht hg hq2 hl hm _ hw hp
    · rw [show chkN true false false (4 + x2 + padN x2) = 0 by unfold chkN; rw [decide_eq_false hw]; rfl]
      exact check_fits kind flags _ _ _ _ _ _ _ _ _ _ _ _ _ _ _ _ _ _ _ _ _ _ _ _  _ _ _ w hv hs hc ht hg hq2 hl hm _ (Nat.le_of_not_lt hw) hp
  · rw [decide_eq_false hz]
    have he : (!((((tsn : Nat) : Int) == 0 && ((ppid : Nat) : Int) == 0 && ((tag : Nat) : Int) == 0 && ((room : Nat) : Int) == 0) && (((stream : Nat) : Int) == 0 && ((ssn : Nat) : Int) == 0 && ((outs : Nat) : Int) == 0 && ((ins : Nat) : Int) == 0) && (((b2 : Nat) : Int) == 0 && ((d2 : Nat) : Int) == 0 && ((p2 : Nat) : Int) == 0 && ((x2 : Nat) : Int) == ((x2 : Nat) : Int)))) = true := by
      cases hb : ((((tsn : Nat) : Int) == 0 && ((ppid : Nat) : Int) == 0 && ((tag : Nat) : Int) == 0 && ((room : Nat) : Int) == 0) && (((stream : Nat) : Int) == 0 && ((ssn : Nat) : Int) == 0 && ((outs : Nat) : Int) == 0 && ((ins : Nat) : Int) == 0) && (((b2 : Nat) : Int) == 0 && ((d2 : Nat) : Int) == 0 && ((p2 : Nat) : Int) == 0 && ((x2 : Nat) : Int) == ((x2 : Nat) : Int))) with
      | false => rfl
      | true =>
        exfalso
        simp at hb
        apply hz
        omega
    have hq2 := fun W => (hq W).trans (by rw [he])
    exact check_not kind flags _ _ _ _ _ _ _ _ _ _ _ _ _ _ _ _ _ _ _ _ _ _ _ _  _ _ _ w hv hs hc ht hg hq2
end Go.Proofs.YtlgfbcfogcmdbaaDoor
