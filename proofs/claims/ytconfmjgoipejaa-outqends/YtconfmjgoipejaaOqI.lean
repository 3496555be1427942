/- outq: the iterator over all pieces, whatever the loop's body does, so long as it keeps the queue's own cells. -/
import Derived.Test.YtconfmjgoipejaaRfM
namespace Go.Proofs.Ytconfmjgoipejaa
open Go.RowKit Go.Shelf
attribute [local go_sem] Oper.semAt_some
/-- What the iterator reads: the box of the queue's pointer, and the queue's row of pieces. -/
structure QP (Bt q : Nat) (pa : Option Addr) (n cap : Nat) (W : World) : Prop where
  box : W.cell? ⟨Bt, 0, none⟩ = some (.pointer (some ⟨q, 0, none⟩))
  row : W.cell? ⟨q, 3, none⟩ = some (.slice pa n cap)
abbrev qQ (Bt q : Nat) : Nat → Prop := fun b => b = Bt ∨ b = q
abbrev stepE (pb : Nat) (k : Nat) : Array Value := #[.int .i64 ((k : Int) + 1), .pointer (some ⟨pb, k * 17, none⟩)]
theorem QP.kq {Bt q : Nat} {pa : Option Addr} {n cap B C : Nat} {W W' : World} (h : QP Bt q pa n cap W) (hk : Kq B C (qQ Bt q) W W') : QP Bt q pa n cap W' :=
  ⟨(hk.cell (.inr (.inl rfl))).trans h.box, (hk.cell (.inr (.inr rfl))).trans h.row⟩
set_option maxRecDepth 100000 in
set_option maxHeartbeats 2000000 in
theorem steps_itr (Bt q pb n cap : Nat) (pa : Option Addr) (hpa : n = 0 ∨ pa = some ⟨pb, 0, none⟩) (hn : n ≤ 1000000) :
    Itr 44 #[.pointer (some ⟨Bt, 0, none⟩)] (stepE pb) n 0 (fun _ _ => some true) (qQ Bt q) (QP Bt q pa n cap) := by
  intro m l J Jx W hJ hJx hP hlW hQW hY h0
  refine callsIn_of_wp Try.func44 rfl trivial ?_ rfl
  simp only [Try.ntmps44, List.size_toArray, List.length_cons, List.length_nil, Nat.reduceAdd, Nat.reduceSub, Array.replicate_succ, Array.replicate_zero, List.push_toArray, List.append_toArray, List.nil_append, List.cons_append]
  have hb := hP.box
  have hr := hP.row
  gi_wp2
  clear hb hr
  gi_loopw [9] (fun v wr => ∃ k : Nat, k ≤ n ∧ v = .int .i64 (k : Int) ∧ J k wr ∧ QP Bt q pa n cap wr) (fun v _ => n - (intOf v).toNat)
  case atStart =>
    exact ⟨0, by omega, rfl, h0, hP⟩
  case round =>
    obtain ⟨k, hk, rfl, hJ1, hP1⟩ := hrel
    clear h0 hP
    by_cases hk2 : k = n
    · subst hk2
      gi_wp2
      go_end0
      exact ⟨⟨_, rfl⟩, .inl hJ1⟩
    · have hlt : (k : Int) < (n : Int) := by omega
      have hlt2 : k < n := by omega
      rcases hpa with h | rfl
      · omega
      have hb := hP1.box
      have hr := hP1.row
      rcases hY k wr hlt2 hJ1 with ⟨_, hy0⟩ | ⟨hf, _⟩
      · obtain ⟨fy, ty, ay, by1, hy, hR⟩ := hy0 (m - 1)
        clear hY
        gi_wp2
        refine ⟨fun h => (by cases h), hR.mono ?_⟩
        rintro e W3 (⟨rfl, hJ3, hk3⟩ | ⟨rfl, hJx3, _⟩)
        · have hP3 := hP1.kq hk3
          clear hb hr hR hy hy0
          gi_wp2
          go_roundw
          case rel => exact ⟨k + 1, by omega, by go_num, hJ3, hP3⟩
          case measure => simp [intOf]; omega
        · clear hb hr hR hy hy0
          gi_wp2
          refine bodyPost_ret (results_none rfl _ _ _) rfl ?_
          exact ⟨⟨_, rfl⟩, .inr hJx3⟩
      · cases hf
end Go.Proofs.Ytconfmjgoipejaa
