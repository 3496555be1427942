/- What was sealed is opened: mathematics. -/
import Derived.Test.YtmikhnaffhheoaaDoorSpan
import Derived.Test.YtmikhnaffhheoaaDoorProg
import Derived.Test.YtmikhnaffhheoaaDoorBase
import Derived.Laws.IdiomStrings
import Derived.Test.YtmikhnaffhheoaaDoorBytes
import Derived.Test.YtmikhnaffhheoaaDoorCkOp
namespace Go.Proofs.YtmikhnaffhheoaaDoor
open Go.RowKit
set_option maxHeartbeats 2000000 in
theorem refnum_any (a : Option Addr) (n c : Nat) (zs : List Nat) (p k : Int) (w : World) (hs : Sl w a n c zs) :
    Calls Tryd.prog 55 #[.slice a n c, .int .i64 p, .int .i64 k] w fun e w' => e = .returned (.tuple #[.int .u64 (numV zs p k : Nat), .int .i64 (nspanE n p k : Nat)]) ∧ w' = w := by
  have hl := hs.len
  by_cases he : nspanE n p k = 0
  · obtain ⟨hk1, hk8, hp0, hpk⟩ := nspan_ok he
    have HE := (show Hid _ from he)
    have HV : Hid (numV zs p k = numB ((zs.drop p.toNat).take k.toNat)) := by show _ = _; unfold numV; rw [hl, if_pos he]
    clear he
    obtain ⟨p, rfl⟩ := Int.eq_ofNat_of_zero_le hp0
    obtain ⟨k, rfl⟩ := Int.eq_ofNat_of_zero_le (show 0 ≤ k by omega)
    rw [Int.toNat_natCast, Int.toNat_natCast] at HV
    have hk8' : k ≤ 8 := by omega
    have hpk' : p + k ≤ n := by omega
    have hk1' : 1 ≤ k := by omega
    have hmid := mid_bnd zs p k hs.bnd
    have hml : ((zs.drop p).take k).length = k := by simp; omega
    obtain ⟨_, hcap, hroom, hsm, _, hb, hat⟩ := hs
    rcases hat with h0 | ⟨b, off, rfl, hlt, hcell⟩
    · omega
    have hcell2 : ∀ i, i < k → w.cell? ⟨b, off + p + i, none⟩ = some (.int .u8 (((zs.drop p).take k).getD i 0 : Nat)) := by
      intro i hi
      rw [mid_getD zs p k i hi, Nat.add_assoc]
      exact hcell (p + i) (by omega)
    clear hcell hb
    generalize (zs.drop p).take k = ys at *
    go_enter Tryd.func55, Tryd.ntmps55
    go_wp2
    go_loop [8, 9] (fun v i => ∃ j : Nat, j ≤ k ∧ i = .int .i64 j ∧ v = .int .u64 (numB (ys.take j) : Nat)) (fun _ i => k - (intOf i).toNat)
    case atStart => exact ⟨0, by omega, rfl, rfl⟩
    case round =>
      obtain ⟨j, hj, rfl, rfl⟩ := hrel
      by_cases hjk : j < k
      · have hc := hcell2 j hjk
        rw [Nat.add_assoc] at hc
        have hx := hmid j
        have HN : Hid (numB (ys.take (j + 1)) = numB (ys.take j) * 256 + ys.getD j 0) := by show _ = _; rw [take_snocN ys j (by omega), numB_snoc]
        have hq : numB (ys.take j) < 72057594037927936 := by
          have h1 := numB_lt (ys.take j) (fun i => by
            by_cases hi : i < j
            · simp [List.getD_eq_getElem?_getD, hi]; have := hmid i; simp [List.getD_eq_getElem?_getD] at this; exact this
            · rw [List.getD_eq_getElem?_getD, List.getElem?_eq_none (by simp; omega)]; exact Nat.zero_lt_succ _)
          have h2 := pow_small j (by omega)
          rw [List.length_take, Nat.min_eq_left (by omega)] at h1
          omega
        clear hcell2 hmid
        generalize numB (ys.take j) = q at *
        generalize ys.getD j 0 = x at *
        have hpj : (p : Int) + (j : Int) < (n : Int) := by omega
        go_wp2
        go_round
        case rel => exact ⟨j + 1, by omega, by go_num, by rw [HN.out]; go_num⟩
        case measure => simp [intOf]; omega
      · obtain rfl : j = k := by omega
        have HT : Hid (ys.take j = ys) := by show _ = _; rw [List.take_of_length_le (by omega)]
        go_wp2
        go_ret2
        exact ⟨by rw [HT.out, HV.out, HE.out]; rfl, rfl⟩
  · have HV : Hid (numV zs p k = 0) := by show _ = _; unfold numV; rw [hl, if_neg he]
    have hsm := hs.small
    have HC : (Hid (nspanE n p k = 2) ∧ (k < 1 ∨ 8 < k ∨ p < 0 ∨ (n : Int) < p)) ∨ (Hid (nspanE n p k = 3) ∧ 1 ≤ k ∧ k ≤ 8 ∧ 0 ≤ p ∧ p ≤ n ∧ (n : Int) - p < k) := by
      unfold nspanE spanE at *
      by_cases h1 : k < 1 ∨ 8 < k
      · rw [if_pos h1]; exact .inl ⟨rfl, by omega⟩
      · rw [if_neg h1] at *
        by_cases h2 : p < 0 ∨ (n : Int) < p ∨ k < 0
        · rw [if_pos h2]; exact .inl ⟨rfl, by omega⟩
        · rw [if_neg h2] at *
          by_cases h3 : (n : Int) - p < k
          · rw [if_pos h3]; exact .inr ⟨rfl, by omega⟩
          · rw [if_neg h3] at he; exact absurd rfl he
    rcases HC with ⟨HE, hc⟩ | ⟨HE, h1, h2, h3, h4, h5⟩
    · have hcase : k < 1 ∨ (1 ≤ k ∧ 8 < k) ∨ (1 ≤ k ∧ k ≤ 8 ∧ p < 0) ∨ (1 ≤ k ∧ k ≤ 8 ∧ 0 ≤ p ∧ (n : Int) < p) := by omega
      clear hc he
      rcases hcase with h1 | ⟨h1, h2⟩ | ⟨h1, h2, h3⟩ | ⟨h1, h2, h3, h4⟩
      all_goals
        go_enter Tryd.func55, Tryd.ntmps55
        go_wp2
        go_ret2
        exact ⟨by rw [HV.out, HE.out]; rfl, rfl⟩
    · clear he
      go_enter Tryd.func55, Tryd.ntmps55
      go_wp2
      go_ret2
      exact ⟨by rw [HV.out, HE.out]; rfl, rfl⟩
end Go.Proofs.YtmikhnaffhheoaaDoor
namespace Go.Proofs.YtmikhnaffhheoaaDoor
open Go.RowKit
set_option maxRecDepth 100000 in
set_option maxHeartbeats 1000000 in
theorem rnumber_any (a : Option Addr) (n c : Nat) (zs : List Nat) (p k : Int) (w : World) (hs : Sl w a n c zs) :
    Calls Tryd.prog 42 #[.slice a n c, .int .i64 p, .int .i64 k] w fun e w' => e = .returned (.int .u64 (numV zs p k : Nat)) ∧ w' = w := by
  have h := refnum_any a n c zs p k w hs
  obtain ⟨V, hV⟩ : ∃ V, V = numV zs p k := ⟨_, rfl⟩
  rw [← hV] at h ⊢
  clear hV
  go_enter Tryd.func42, Tryd.ntmps42
  go_wp2_with fail
  refine h.mono ?_
  rintro e w1 ⟨rfl, rfl⟩
  go_wp2
  go_ret
  exact ⟨rfl, rfl⟩
end Go.Proofs.YtmikhnaffhheoaaDoor
namespace Go.Proofs.YtmikhnaffhheoaaDoor
open Go.RowKit
def strOf (zs : List Nat) : ByteArray := ⟨(zs.map UInt8.ofNat).toArray⟩
theorem conv_str {w : World} {a : Option Addr} {n c : Nat} {zs : List Nat} (hs : Sl w a n c zs) : (convert 22 9 (.slice a n c)).run Tryd.prog w = .ok (.string (strOf zs)) w := by
  obtain ⟨hl, hcap, hroom, hsm, hnz, hb, hat⟩ := hs
  cases a with
  | none =>
    obtain rfl := hnz rfl
    obtain rfl : n = 0 := by omega
    obtain rfl : zs = [] := List.eq_nil_of_length_eq_zero hl
    rw [run_convert_bytes_string w 22 9 5 none 0 0 Tryd.underlying22 Tryd.underlying5 Tryd.underlying9]
    rfl
  | some p =>
    have hlen : (zs.map UInt8.ofNat).length = n := by simp [hl]
    have := run_convert_bytes_back (P := Tryd.prog) w 22 9 5 p c (zs.map UInt8.ofNat) Tryd.underlying22 Tryd.underlying5 Tryd.underlying9 (fun j hj => by
      rw [hlen] at hj
      rcases hat with h0 | ⟨b, off, hp, _, hcell⟩
      · omega
      · injection hp with hp
        subst hp
        have ea : (⟨b, off, none⟩ : Addr).add j = ⟨b, off + j, none⟩ := by
          unfold Addr.add
          split
          · subst_vars; rfl
          · rfl
        have hbj := hb j
        have e2 : zs[j]'(by omega) = zs.getD j 0 := by simp [List.getD_eq_getElem?_getD, show j < zs.length from by omega]
        rw [ea, hcell j hj, List.getElem_map, e2]
        generalize zs.getD j 0 = q at hbj
        have e3 : (UInt8.ofNat q).toNat = q := by rw [UInt8.toNat_ofNat']; omega
        rw [e3])
    rw [hlen] at this
    exact this
theorem strOf_inj {zs ys : List Nat} (hz : ∀ i, zs.getD i 0 < 256) (hy : ∀ i, ys.getD i 0 < 256) (h : strOf zs = strOf ys) : zs = ys := by
  have h1 : zs.map UInt8.ofNat = ys.map UInt8.ofNat := by
    unfold strOf at h
    injection h with h
    simpa using congrArg Array.toList h
  have hl : zs.length = ys.length := by simpa using congrArg List.length h1
  apply List.ext_getElem hl
  intro i h2 h3
  have h4 : (zs.map UInt8.ofNat)[i]'(by simpa using h2) = (ys.map UInt8.ofNat)[i]'(by simpa using h3) := by simp only [h1]
  rw [List.getElem_map, List.getElem_map] at h4
  have a1 := hz i
  have a2 := hy i
  simp [List.getD_eq_getElem?_getD, h2] at a1
  simp [List.getD_eq_getElem?_getD, h3] at a2
  have h5 := congrArg UInt8.toNat h4
  simpa [UInt8.toNat_ofNat', Nat.mod_eq_of_lt a1, Nat.mod_eq_of_lt a2] using h5
end Go.Proofs.YtmikhnaffhheoaaDoor
namespace Go.Proofs.YtmikhnaffhheoaaDoor
open Go.RowKit
theorem bytesB_mod (n : Nat) : ∀ a r : Nat, bytesB (a * 256 ^ n + r) n = bytesB r n := by
  induction n with
  | zero => intro a r; rfl
  | succ n ih =>
    intro a r
    have hP : 0 < 256 ^ n := Nat.pow_pos (by omega)
    have e1 : a * 256 ^ (n + 1) + r = (a * 256) * 256 ^ n + r := by rw [Nat.pow_succ, Nat.mul_assoc, Nat.mul_comm 256]
    show ((a * 256 ^ (n + 1) + r) / 256 ^ n % 256) :: bytesB (a * 256 ^ (n + 1) + r) n = (r / 256 ^ n % 256) :: bytesB r n
    rw [e1, ih, Nat.add_comm, Nat.add_mul_div_right _ _ hP]
    congr 1
    omega
theorem numB_acc (l : List Nat) : ∀ acc, l.foldl (fun v d => v * 256 + d) acc = acc * 256 ^ l.length + numB l := by
  induction l with
  | nil => intro acc; simp [numB]
  | cons x l ih =>
    intro acc
    show l.foldl _ (acc * 256 + x) = acc * 256 ^ (l.length + 1) + l.foldl _ (0 * 256 + x)
    rw [ih, ih (0 * 256 + x), Nat.pow_succ]
    generalize 256 ^ l.length = P
    rw [Nat.add_mul, Nat.zero_mul, Nat.zero_add, Nat.mul_assoc, Nat.mul_comm 256 P]
    omega
theorem numB_cons (x : Nat) (l : List Nat) : numB (x :: l) = x * 256 ^ l.length + numB l := by
  show l.foldl _ (0 * 256 + x) = _
  rw [numB_acc]
  simp
theorem numB_ltM (l : List Nat) (hb : ∀ x ∈ l, x < 256) : numB l < 256 ^ l.length := by
  refine numB_lt l fun i => ?_
  rw [List.getD_eq_getElem?_getD]
  cases h : l[i]? with
  | none => simp
  | some x => exact hb x (List.mem_of_getElem? h)
theorem bytesB_numB (l : List Nat) (hb : ∀ x ∈ l, x < 256) : bytesB (numB l) l.length = l := by
  induction l with
  | nil => rfl
  | cons x l ih =>
    have hl : ∀ y ∈ l, y < 256 := fun y hy => hb y (List.mem_cons_of_mem _ hy)
    have hx := hb x List.mem_cons_self
    have hlt := numB_ltM l hl
    have hP : 0 < 256 ^ l.length := Nat.pow_pos (by omega)
    rw [numB_cons]
    show ((x * 256 ^ l.length + numB l) / 256 ^ l.length % 256) :: bytesB (x * 256 ^ l.length + numB l) l.length = x :: l
    rw [bytesB_mod, ih hl, Nat.add_comm, Nat.add_mul_div_right _ _ hP, Nat.div_eq_of_lt hlt]
    congr 1
    omega
/-- A number that stands in bytes is read there. -/
theorem numV_at (A : List Nat) (v k : Nat) (R : List Nat) (h1 : 1 ≤ k) (h8 : k ≤ 8) (hv : v < 256 ^ k) (p : Nat) (hp : p = A.length) : numV (A ++ (bytesB v k ++ R)) (p : Int) (k : Int) = v := by
  subst hp
  unfold numV
  have e : nspanE (A ++ (bytesB v k ++ R)).length (A.length : Int) (k : Int) = 0 := by
    unfold nspanE spanE
    rw [if_neg (by omega)]
    simp only [List.length_append, bytesB_len]
    rw [if_neg (by omega), if_neg (by omega)]
  rw [if_pos e, Int.toNat_natCast, Int.toNat_natCast, List.drop_left, List.take_append_of_le_length (by rw [bytesB_len]; exact Nat.le_refl _), List.take_of_length_le (by rw [bytesB_len]; exact Nat.le_refl _)]
  show (bytesB v k).foldl _ 0 = v
  rw [numB_bytes, Nat.mod_eq_of_lt hv]
  omega
theorem mem_bnd {zs : List Nat} (hb : ∀ i, zs.getD i 0 < 256) : ∀ x ∈ zs, x < 256 := by
  intro x hx
  obtain ⟨i, hi⟩ := List.getElem?_of_mem hx
  have := hb i
  rw [List.getD_eq_getElem?_getD, hi] at this
  exact this
/-- The bytes of a number that is read are the bytes that stand there. -/
theorem bytesB_at (zs : List Nat) (p k : Nat) (hb : ∀ i, zs.getD i 0 < 256) (h1 : 1 ≤ k) (h8 : k ≤ 8) (hl : p + k ≤ zs.length) : bytesB (numV zs (p : Int) (k : Int)) k = (zs.drop p).take k := by
  unfold numV
  have e : nspanE zs.length (p : Int) (k : Int) = 0 := by
    unfold nspanE spanE
    rw [if_neg (by omega), if_neg (by omega), if_neg (by omega)]
  rw [if_pos e, Int.toNat_natCast, Int.toNat_natCast]
  have hll : ((zs.drop p).take k).length = k := by rw [List.length_take, List.length_drop]; omega
  have hm : ∀ x ∈ (zs.drop p).take k, x < 256 := fun x hx => mem_bnd hb x (List.mem_of_mem_drop (List.mem_of_mem_take hx))
  have := bytesB_numB _ hm
  rwa [hll] at this
end Go.Proofs.YtmikhnaffhheoaaDoor
namespace Go.Proofs.YtmikhnaffhheoaaDoor
open Go.RowKit
theorem ps_made (c : Ck) (hc : c.ok) : numV (lyB c.ps) ((0 : Nat) : Int) ((8 : Nat) : Int) = c.made := by
  have := numV_at ([]) c.made 8 (bytesB c.life 4 ++ bytesB c.port 2 ++ bytesB c.pport 2 ++ bytesB c.tag 4 ++ bytesB c.ptag 4 ++ bytesB c.tsn 4 ++ bytesB c.ptsn 4 ++ bytesB c.room 4 ++ bytesB c.outs 2 ++ bytesB c.ins 2 ++ bytesB c.addr 4 ++ bytesB c.other 4 ++ bytesB 0 4) (by omega) (by omega) (by have := hc.made; show _ < 256 ^ 8; omega) 0 (by rfl)
  rw [← this]
  congr 1
theorem ps_life (c : Ck) (hc : c.ok) : numV (lyB c.ps) ((8 : Nat) : Int) ((4 : Nat) : Int) = c.life := by
  have := numV_at (bytesB c.made 8) c.life 4 (bytesB c.port 2 ++ bytesB c.pport 2 ++ bytesB c.tag 4 ++ bytesB c.ptag 4 ++ bytesB c.tsn 4 ++ bytesB c.ptsn 4 ++ bytesB c.room 4 ++ bytesB c.outs 2 ++ bytesB c.ins 2 ++ bytesB c.addr 4 ++ bytesB c.other 4 ++ bytesB 0 4) (by omega) (by omega) (by have := hc.life; show _ < 256 ^ 4; omega) 8 (by simp [bytesB_len])
  rw [← this]
  congr 1
theorem ps_port (c : Ck) (hc : c.ok) : numV (lyB c.ps) ((12 : Nat) : Int) ((2 : Nat) : Int) = c.port := by
  have := numV_at (bytesB c.made 8 ++ bytesB c.life 4) c.port 2 (bytesB c.pport 2 ++ bytesB c.tag 4 ++ bytesB c.ptag 4 ++ bytesB c.tsn 4 ++ bytesB c.ptsn 4 ++ bytesB c.room 4 ++ bytesB c.outs 2 ++ bytesB c.ins 2 ++ bytesB c.addr 4 ++ bytesB c.other 4 ++ bytesB 0 4) (by omega) (by omega) (by have := hc.port; show _ < 256 ^ 2; omega) 12 (by simp [bytesB_len])
  rw [← this]
  congr 1
theorem ps_pport (c : Ck) (hc : c.ok) : numV (lyB c.ps) ((14 : Nat) : Int) ((2 : Nat) : Int) = c.pport := by
  have := numV_at (bytesB c.made 8 ++ bytesB c.life 4 ++ bytesB c.port 2) c.pport 2 (bytesB c.tag 4 ++ bytesB c.ptag 4 ++ bytesB c.tsn 4 ++ bytesB c.ptsn 4 ++ bytesB c.room 4 ++ bytesB c.outs 2 ++ bytesB c.ins 2 ++ bytesB c.addr 4 ++ bytesB c.other 4 ++ bytesB 0 4) (by omega) (by omega) (by have := hc.pport; show _ < 256 ^ 2; omega) 14 (by simp [bytesB_len])
  rw [← this]
  congr 1
theorem ps_tag (c : Ck) (hc : c.ok) : numV (lyB c.ps) ((16 : Nat) : Int) ((4 : Nat) : Int) = c.tag := by
  have := numV_at (bytesB c.made 8 ++ bytesB c.life 4 ++ bytesB c.port 2 ++ bytesB c.pport 2) c.tag 4 (bytesB c.ptag 4 ++ bytesB c.tsn 4 ++ bytesB c.ptsn 4 ++ bytesB c.room 4 ++ bytesB c.outs 2 ++ bytesB c.ins 2 ++ bytesB c.addr 4 ++ bytesB c.other 4 ++ bytesB 0 4) (by omega) (by omega) (by have := hc.tag; show _ < 256 ^ 4; omega) 16 (by simp [bytesB_len])
  rw [← this]
  congr 1
theorem ps_ptag (c : Ck) (hc : c.ok) : numV (lyB c.ps) ((20 : Nat) : Int) ((4 : Nat) : Int) = c.ptag := by
  have := numV_at (bytesB c.made 8 ++ bytesB c.life 4 ++ bytesB c.port 2 ++ bytesB c.pport 2 ++ bytesB c.tag 4) c.ptag 4 (bytesB c.tsn 4 ++ bytesB c.ptsn 4 ++ bytesB c.room 4 ++ bytesB c.outs 2 ++ bytesB c.ins 2 ++ bytesB c.addr 4 ++ bytesB c.other 4 ++ bytesB 0 4) (by omega) (by omega) (by have := hc.ptag; show _ < 256 ^ 4; omega) 20 (by simp [bytesB_len])
  rw [← this]
  congr 1
theorem ps_tsn (c : Ck) (hc : c.ok) : numV (lyB c.ps) ((24 : Nat) : Int) ((4 : Nat) : Int) = c.tsn := by
  have := numV_at (bytesB c.made 8 ++ bytesB c.life 4 ++ bytesB c.port 2 ++ bytesB c.pport 2 ++ bytesB c.tag 4 ++ bytesB c.ptag 4) c.tsn 4 (bytesB c.ptsn 4 ++ bytesB c.room 4 ++ bytesB c.outs 2 ++ bytesB c.ins 2 ++ bytesB c.addr 4 ++ bytesB c.other 4 ++ bytesB 0 4) (by omega) (by omega) (by have := hc.tsn; show _ < 256 ^ 4; omega) 24 (by simp [bytesB_len])
  rw [← this]
  congr 1
theorem ps_ptsn (c : Ck) (hc : c.ok) : numV (lyB c.ps) ((28 : Nat) : Int) ((4 : Nat) : Int) = c.ptsn := by
  have := numV_at (bytesB c.made 8 ++ bytesB c.life 4 ++ bytesB c.port 2 ++ bytesB c.pport 2 ++ bytesB c.tag 4 ++ bytesB c.ptag 4 ++ bytesB c.tsn 4) c.ptsn 4 (bytesB c.room 4 ++ bytesB c.outs 2 ++ bytesB c.ins 2 ++ bytesB c.addr 4 ++ bytesB c.other 4 ++ bytesB 0 4) (by omega) (by omega) (by have := hc.ptsn; show _ < 256 ^ 4; omega) 28 (by simp [bytesB_len])
  rw [← this]
  congr 1
theorem ps_room (c : Ck) (hc : c.ok) : numV (lyB c.ps) ((32 : Nat) : Int) ((4 : Nat) : Int) = c.room := by
  have := numV_at (bytesB c.made 8 ++ bytesB c.life 4 ++ bytesB c.port 2 ++ bytesB c.pport 2 ++ bytesB c.tag 4 ++ bytesB c.ptag 4 ++ bytesB c.tsn 4 ++ bytesB c.ptsn 4) c.room 4 (bytesB c.outs 2 ++ bytesB c.ins 2 ++ bytesB c.addr 4 ++ bytesB c.other 4 ++ bytesB 0 4) (by omega) (by omega) (by have := hc.room; show _ < 256 ^ 4; omega) 32 (by simp [bytesB_len])
  rw [← this]
  congr 1
theorem ps_outs (c : Ck) (hc : c.ok) : numV (lyB c.ps) ((36 : Nat) : Int) ((2 : Nat) : Int) = c.outs := by
  have := numV_at (bytesB c.made 8 ++ bytesB c.life 4 ++ bytesB c.port 2 ++ bytesB c.pport 2 ++ bytesB c.tag 4 ++ bytesB c.ptag 4 ++ bytesB c.tsn 4 ++ bytesB c.ptsn 4 ++ bytesB c.room 4) c.outs 2 (bytesB c.ins 2 ++ bytesB c.addr 4 ++ bytesB c.other 4 ++ bytesB 0 4) (by omega) (by omega) (by have := hc.outs; show _ < 256 ^ 2; omega) 36 (by simp [bytesB_len])
  rw [← this]
  congr 1
theorem ps_ins (c : Ck) (hc : c.ok) : numV (lyB c.ps) ((38 : Nat) : Int) ((2 : Nat) : Int) = c.ins := by
  have := numV_at (bytesB c.made 8 ++ bytesB c.life 4 ++ bytesB c.port 2 ++ bytesB c.pport 2 ++ bytesB c.tag 4 ++ bytesB c.ptag 4 ++ bytesB c.tsn 4 ++ bytesB c.ptsn 4 ++ bytesB c.room 4 ++ bytesB c.outs 2) c.ins 2 (bytesB c.addr 4 ++ bytesB c.other 4 ++ bytesB 0 4) (by omega) (by omega) (by have := hc.ins; show _ < 256 ^ 2; omega) 38 (by simp [bytesB_len])
  rw [← this]
  congr 1
theorem ps_addr (c : Ck) (hc : c.ok) : numV (lyB c.ps) ((40 : Nat) : Int) ((4 : Nat) : Int) = c.addr := by
  have := numV_at (bytesB c.made 8 ++ bytesB c.life 4 ++ bytesB c.port 2 ++ bytesB c.pport 2 ++ bytesB c.tag 4 ++ bytesB c.ptag 4 ++ bytesB c.tsn 4 ++ bytesB c.ptsn 4 ++ bytesB c.room 4 ++ bytesB c.outs 2 ++ bytesB c.ins 2) c.addr 4 (bytesB c.other 4 ++ bytesB 0 4) (by omega) (by omega) (by have := hc.addr; show _ < 256 ^ 4; omega) 40 (by simp [bytesB_len])
  rw [← this]
  congr 1
theorem ps_other (c : Ck) (hc : c.ok) : numV (lyB c.ps) ((44 : Nat) : Int) ((4 : Nat) : Int) = c.other := by
  have := numV_at (bytesB c.made 8 ++ bytesB c.life 4 ++ bytesB c.port 2 ++ bytesB c.pport 2 ++ bytesB c.tag 4 ++ bytesB c.ptag 4 ++ bytesB c.tsn 4 ++ bytesB c.ptsn 4 ++ bytesB c.room 4 ++ bytesB c.outs 2 ++ bytesB c.ins 2 ++ bytesB c.addr 4) c.other 4 (bytesB 0 4) (by omega) (by omega) (by have := hc.other; show _ < 256 ^ 4; omega) 44 (by simp [bytesB_len])
  rw [← this]
  congr 1
theorem ps_spare (c : Ck)  : numV (lyB c.ps) ((48 : Nat) : Int) ((4 : Nat) : Int) = 0 := by
  have := numV_at (bytesB c.made 8 ++ bytesB c.life 4 ++ bytesB c.port 2 ++ bytesB c.pport 2 ++ bytesB c.tag 4 ++ bytesB c.ptag 4 ++ bytesB c.tsn 4 ++ bytesB c.ptsn 4 ++ bytesB c.room 4 ++ bytesB c.outs 2 ++ bytesB c.ins 2 ++ bytesB c.addr 4 ++ bytesB c.other 4) 0 4 ([]) (by omega) (by omega) (by decide) 48 (by simp [bytesB_len])
  rw [← this]
  congr 1
theorem seal_take (ks : List Nat) (c : Ck) : (sealV ks c).take 52 = lyB c.ps := by
  unfold sealV
  exact List.take_left' (ps_len c)
theorem seal_drop (ks : List Nat) (c : Ck) : (sealV ks c).drop 52 = macN ks (lyB c.ps) := by
  unfold sealV
  exact List.drop_left' (ps_len c)
theorem wrap_small (v : Nat) (h : v < 9223372036854775808) : IntKind.i64.wrap (v : Int) = (v : Int) := by rw [IntKind.wrap_i64]; omega
/-- The error of a sealed cookie at a tick. -/
theorem op_seal (cur : List Nat) (fm : Option (List Nat)) (ks : List Nat) (c : Ck) (hc : c.ok) (hk : ks = cur ∨ fm = some ks) (now : Int) : opE cur fm (sealV ks c) now = if now < 0 ∨ 1099511627776 < now then 2 else if now < (c.made : Int) ∨ (c.made : Int) + (c.life : Int) < now then 8 else 0 := by
  unfold opE
  split
  · rfl
  · rw [if_neg (by rw [sealV_len]; simp)]
    unfold opB
    have hS : sealedV cur fm ((sealV ks c).take 52) ((sealV ks c).drop 52) = true := by
      rw [seal_take, seal_drop]
      unfold sealedV
      rcases hk with rfl | rfl
      · rw [decide_eq_true rfl]; rfl
      · simp
    rw [hS, if_neg (by simp), seal_take, ps_spare, if_neg (by simp), ps_made c hc, ps_life c hc, wrap_small _ (by have := hc.made; omega), wrap_small _ (by have := hc.life; omega)]
    rw [show ckMay (c.made : Int) (c.life : Int) = true from decide_eq_true ⟨by omega, by have := hc.made; omega, by omega, by have := hc.life; omega⟩]
    rw [if_neg (by simp)]
end Go.Proofs.YtmikhnaffhheoaaDoor
