/- What was sealed is opened: mathematics. -/
import Derived.Test.YtlkclaehamidbaaDoorCkOp
import Derived.Test.YtlkclaehamidbaaDoorBnM
namespace Go.Proofs.YtlkclaehamidbaaDoor
open Go.RowKit
theorem ps_made (c : Ck) (hc : c.ok) : numV (lyB c.ps) ((0 : Nat) : Int) ((8 : Nat) : Int) = c.made := by
  have := numV_at ([]) c.made 8 (bytesB c.life 4 ++ bytesB c.port 2 ++ bytesB c.pport 2 ++ bytesB c.tag 4 ++ bytesB c.ptag 4 ++ bytesB c.tsn 4 ++ bytesB c.ptsn 4 ++ bytesB c.room 4 ++ bytesB c.outs 2 ++ bytesB c.ins 2 ++ bytesB c.addr 4 ++ bytesB c.other 4 ++ bytesB 0 4) (by omega) (by omega) (by have := hc.made; show _ < 256 ^ 8; omega) 0 (by rfl)
  rw [← this]
  congr 1
theorem ps_life (c : Ck) (hc : c.ok) : numV (lyB c.ps) ((8 : Nat) : Int) ((4 : Nat) : Int) = c.life := by
  have := numV_at (bytesB c.made 8) c.life 4 (bytesB c.port 2 ++ bytesB c.pport 2 ++ bytesB c.tag 4 ++ bytesB c.ptag 4 ++ bytesB c.tsn 4 ++ bytesB c.ptsn 4 ++ bytesB c.room 4 ++ bytesB c.outs 2 ++ bytesB c.ins 2 ++ bytesB c.addr 4 ++ bytesB c.other 4 ++ bytesB 0 4) (by omega) (by omega) (by have := hc.life; show _ < 256 ^ 4; omega) 8 (by simp [bytesB_len])
  rw [← this]
  congr 1
theorem ps_port (c : Ck) (hc : c.ok) : numV (lyB c.ps) ((12 : Nat) : Int) ((2 : Nat) : Int) = c.port := by
  have := numV_at (bytesB c.made 8 ++ bytesB c.life 4) c.port 2 (bytesB c.pport 2 ++ bytesB c.tag 4 ++ bytesB c.ptag 4 ++ bytesB c.tsn 4 ++ bytesB c.ptsn 4 ++ bytesB c.room 4 ++ bytesB c.outs 2 ++ bytesB c.ins 2 ++ bytesB c.addr 4 ++ bytesB c.other 4 ++ bytesB 0 4) (by omega) (by omega) (by have := hc.port; show _ < 256 ^ 2; omega) 12 (by simp [bytesB_len])
  rw [← this]
  congr 1
theorem ps_pport (c : Ck) (hc : c.ok) : numV (lyB c.ps) ((14 : Nat) : Int) ((2 : Nat) : Int) = c.pport := by
  have := numV_at (bytesB c.made 8 ++ bytesB c.life 4 ++ bytesB c.port 2) c.pport 2 (bytesB c.tag 4 ++ bytesB c.ptag 4 ++ bytesB c.tsn 4 ++ bytesB c.ptsn 4 ++ bytesB c.room 4 ++ bytesB c.outs 2 ++ bytesB c.ins 2 ++ bytesB c.addr 4 ++ bytesB c.other 4 ++ bytesB 0 4) (by omega) (by omega) (by have := hc.pport; show _ < 256 ^ 2; omega) 14 (by simp [bytesB_len])
  rw [← this]
  congr 1
theorem ps_tag (c : Ck) (hc : c.ok) : numV (lyB c.ps) ((16 : Nat) : Int) ((4 : Nat) : Int) = c.tag := by
  have := numV_at (bytesB c.made 8 ++ bytesB c.life 4 ++ bytesB c.port 2 ++ bytesB c.pport 2) c.tag 4 (bytesB c.ptag 4 ++ bytesB c.tsn 4 ++ bytesB c.ptsn 4 ++ bytesB c.room 4 ++ bytesB c.outs 2 ++ bytesB c.ins 2 ++ bytesB c.addr 4 ++ bytesB c.other 4 ++ bytesB 0 4) (by omega) (by omega) (by have := hc.tag; show _ < 256 ^ 4; omega) 16 (by simp [bytesB_len])
  rw [← this]
  congr 1
theorem ps_ptag (c : Ck) (hc : c.ok) : numV (lyB c.ps) ((20 : Nat) : Int) ((4 : Nat) : Int) = c.ptag := by
  have := numV_at (bytesB c.made 8 ++ bytesB c.life 4 ++ bytesB c.port 2 ++ bytesB c.pport 2 ++ bytesB c.tag 4) c.ptag 4 (bytesB c.tsn 4 ++ bytesB c.ptsn 4 ++ bytesB c.room 4 ++ bytesB c.outs 2 ++ bytesB c.ins 2 ++ bytesB c.addr 4 ++ bytesB c.other 4 ++ bytesB 0 4) (by omega) (by omega) (by have := hc.ptag; show _ < 256 ^ 4; omega) 20 (by simp [bytesB_len])
  rw [← this]
  congr 1
theorem ps_tsn (c : Ck) (hc : c.ok) : numV (lyB c.ps) ((24 : Nat) : Int) ((4 : Nat) : Int) = c.tsn := by
  have := numV_at (bytesB c.made 8 ++ bytesB c.life 4 ++ bytesB c.port 2 ++ bytesB c.pport 2 ++ bytesB c.tag 4 ++ bytesB c.ptag 4) c.tsn 4 (bytesB c.ptsn 4 ++ bytesB c.room 4 ++ bytesB c.outs 2 ++ bytesB c.ins 2 ++ bytesB c.addr 4 ++ bytesB c.other 4 ++ bytesB 0 4) (by omega) (by omega) (by have := hc.tsn; show _ < 256 ^ 4; omega) 24 (by simp [bytesB_len])
  rw [← this]
  congr 1
theorem ps_ptsn (c : Ck) (hc : c.ok) : numV (lyB c.ps) ((28 : Nat) : Int) ((4 : Nat) : Int) = c.ptsn := by
  have := numV_at (bytesB c.made 8 ++ bytesB c.life 4 ++ bytesB c.port 2 ++ bytesB c.pport 2 ++ bytesB c.tag 4 ++ bytesB c.ptag 4 ++ bytesB c.tsn 4) c.ptsn 4 (bytesB c.room 4 ++ bytesB c.outs 2 ++ bytesB c.ins 2 ++ bytesB c.addr 4 ++ bytesB c.other 4 ++ bytesB 0 4) (by omega) (by omega) (by have := hc.ptsn; show _ < 256 ^ 4; omega) 28 (by simp [bytesB_len])
  rw [← this]
  congr 1
theorem ps_room (c : Ck) (hc : c.ok) : numV (lyB c.ps) ((32 : Nat) : Int) ((4 : Nat) : Int) = c.room := by
  have := numV_at (bytesB c.made 8 ++ bytesB c.life 4 ++ bytesB c.port 2 ++ bytesB c.pport 2 ++ bytesB c.tag 4 ++ bytesB c.ptag 4 ++ bytesB c.tsn 4 ++ bytesB c.ptsn 4) c.room 4 (bytesB c.outs 2 ++ bytesB c.ins 2 ++ bytesB c.addr 4 ++ bytesB c.other 4 ++ bytesB 0 4) (by omega) (by omega) (by have := hc.room; show _ < 256 ^ 4; omega) 32 (by simp [bytesB_len])
  rw [← this]
  congr 1
theorem ps_outs (c : Ck) (hc : c.ok) : numV (lyB c.ps) ((36 : Nat) : Int) ((2 : Nat) : Int) = c.outs := by
  have := numV_at (bytesB c.made 8 ++ bytesB c.life 4 ++ bytesB c.port 2 ++ bytesB c.pport 2 ++ bytesB c.tag 4 ++ bytesB c.ptag 4 ++ bytesB c.tsn 4 ++ bytesB c.ptsn 4 ++ bytesB c.room 4) c.outs 2 (bytesB c.ins 2 ++ bytesB c.addr 4 ++ bytesB c.other 4 ++ bytesB 0 4) (by omega) (by omega) (by have := hc.outs; show _ < 256 ^ 2; omega) 36 (by simp [bytesB_len])
  rw [← this]
  congr 1
theorem ps_ins (c : Ck) (hc : c.ok) : numV (lyB c.ps) ((38 : Nat) : Int) ((2 : Nat) : Int) = c.ins := by
  have := numV_at (bytesB c.made 8 ++ bytesB c.life 4 ++ bytesB c.port 2 ++ bytesB c.pport 2 ++ bytesB c.tag 4 ++ bytesB c.ptag 4 ++ bytesB c.tsn 4 ++ bytesB c.ptsn 4 ++ bytesB c.room 4 ++ bytesB c.outs 2) c.ins 2 (bytesB c.addr 4 ++ bytesB c.other 4 ++ bytesB 0 4) (by omega) (by omega) (by have := hc.ins; show _ < 256 ^ 2; omega) 38 (by simp [bytesB_len])
  rw [← this]
  congr 1
theorem ps_addr (c : Ck) (hc : c.ok) : numV (lyB c.ps) ((40 : Nat) : Int) ((4 : Nat) : Int) = c.addr := by
  have := numV_at (bytesB c.made 8 ++ bytesB c.life 4 ++ bytesB c.port 2 ++ bytesB c.pport 2 ++ bytesB c.tag 4 ++ bytesB c.ptag 4 ++ bytesB c.tsn 4 ++ bytesB c.ptsn 4 ++ bytesB c.room 4 ++ bytesB c.outs 2 ++ bytesB c.ins 2) c.addr 4 (bytesB c.other 4 ++ bytesB 0 4) (by omega) (by omega) (by have := hc.addr; show _ < 256 ^ 4; omega) 40 (by simp [bytesB_len])
  rw [← this]
  congr 1
theorem ps_other (c : Ck) (hc : c.ok) : numV (lyB c.ps) ((44 : Nat) : Int) ((4 : Nat) : Int) = c.other := by
  have := numV_at (bytesB c.made 8 ++ bytesB c.life 4 ++ bytesB c.port 2 ++ bytesB c.pport 2 ++ bytesB c.tag 4 ++ bytesB c.ptag 4 ++ bytesB c.tsn 4 ++ bytesB c.ptsn 4 ++ bytesB c.room 4 ++ bytesB c.outs 2 ++ bytesB c.ins 2 ++ bytesB c.addr 4) c.other 4 (bytesB 0 4) (by omega) (by omega) (by have := hc.other; show _ < 256 ^ 4; omega) 44 (by simp [bytesB_len])
  rw [← this]
  congr 1
theorem ps_spare (c : Ck)  : numV (lyB c.ps) ((48 : Nat) : Int) ((4 : Nat) : Int) = 0 := by
  have := numV_at (bytesB c.made 8 ++ bytesB c.life 4 ++ bytesB c.port 2 ++ bytesB c.pport 2 ++ bytesB c.tag 4 ++ bytesB c.ptag 4 ++ bytesB c.tsn 4 ++ bytesB c.ptsn 4 ++ bytesB c.room 4 ++ bytesB c.outs 2 ++ bytesB c.ins 2 ++ bytesB c.addr 4 ++ bytesB c.other 4) 0 4 ([]) (by omega) (by omega) (by decide) 48 (by simp [bytesB_len])
  rw [← this]
  congr 1
theorem seal_take (ks : List Nat) (c : Ck) : (sealV ks c).take 52 = lyB c.ps := by
  unfold sealV
  exact List.take_left' (ps_len c)
theorem seal_drop (ks : List Nat) (c : Ck) : (sealV ks c).drop 52 = macN ks (lyB c.ps) := by
  unfold sealV
  exact List.drop_left' (ps_len c)
theorem wrap_small (v : Nat) (h : v < 9223372036854775808) : IntKind.i64.wrap (v : Int) = (v : Int) := by rw [IntKind.wrap_i64]; omega
/-- The error of a sealed cookie at a tick. -/
theorem op_seal (cur : List Nat) (fm : Option (List Nat)) (ks : List Nat) (c : Ck) (hc : c.ok) (hk : ks = cur ∨ fm = some ks) (now : Int) : opE cur fm (sealV ks c) now = if now < 0 ∨ 1099511627776 < now then 2 else if now < (c.made : Int) ∨ (c.made : Int) + (c.life : Int) < now then 8 else 0 := by
  unfold opE
  split
  · rfl
  · rw [if_neg (by rw [sealV_len]; simp)]
    unfold opB
    have hS : sealedV cur fm ((sealV ks c).take 52) ((sealV ks c).drop 52) = true := by
      rw [seal_take, seal_drop]
      unfold sealedV
      rcases hk with rfl | rfl
      · rw [decide_eq_true rfl]; rfl
      · simp
    rw [hS, if_neg (by simp), seal_take, ps_spare, if_neg (by simp), ps_made c hc, ps_life c hc, wrap_small _ (by have := hc.made; omega), wrap_small _ (by have := hc.life; omega)]
    rw [show ckMay (c.made : Int) (c.life : Int) = true from decide_eq_true ⟨by omega, by have := hc.made; omega, by omega, by have := hc.life; omega⟩]
    rw [if_neg (by simp)]
end Go.Proofs.YtlkclaehamidbaaDoor
