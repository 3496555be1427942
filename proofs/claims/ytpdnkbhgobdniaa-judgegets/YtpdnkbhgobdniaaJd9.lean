/- judge: take. -/
import Derived.Test.YtpdnkbhgobdniaaJd8
namespace Go.Proofs.Ytpdnkbhgobdniaa
open Go.RowKit Go.MapKept Go.Maps
theorem TkP.mono {w0 : World} {cb n : Nat} {r : Cp × Int} {e : Ending} {w' : World} (h : TkP w0 cb n r e w') : TkP w0 cb (n + 1) r e w' := by
  obtain ⟨h1, own, h2⟩ := h
  exact ⟨h1, own, h2.mono (by omega)⟩
theorem sent_any (w0 : World) (cb : Nat) (own : Ow) (n : Nat) (cp : Cp) (q : Sd) (st ssn pp : Nat) (fr : Bool) (a : Option Addr) (nn c : Nat) (zs : List Nat) (w : World) (h : Ct w0 w cb own n cp (fun _ => False)) (hk : SdK q) (hm : (Mg.mk st ssn pp fr a nn c zs).Ok w0) (hn : n ≤ 100000) :
    Calls Try.prog 24 #[.map (some cb), .agg #[.int .i64 q.1, .int .u32 (q.2.1 : Nat), .int .u32 (q.2.2 : Nat)], .agg #[.int .u16 (st : Nat), .int .u16 (ssn : Nat), .int .u32 (pp : Nat), .bool fr, .slice a nn c]] w (TkP w0 cb n (sentJ cp q ⟨st, ssn, pp, fr, a, nn, c, zs⟩)) := by
  unfold sentJ
  cases hs : (cp q).shuts
  · cases he : (cp q).ended
    · rw [if_neg (by simp)]
      cases fr
      · exact sent_row w0 cb own n cp q st ssn pp a nn c zs w h hk hm hn hs he
      · exact sent_free w0 cb own n cp q st ssn pp a nn c zs w h hk hm hn hs he
    · rw [if_pos (.inr rfl)]
      exact sent_no2 w0 cb own n cp q st ssn pp fr a nn c w h hk hs he
  · rw [if_pos (.inl rfl)]
    exact sent_no1 w0 cb own n cp q st ssn pp fr a nn c w h hk hs
set_option maxRecDepth 100000 in
set_option maxHeartbeats 8000000 in
theorem take_any (w0 : World) (cb : Nat) (own : Ow) (n : Nat) (cp : Cp) (x : Mk) (w : World) (h : Ct w0 w cb own n cp (fun _ => False)) (hx : x.Wf w0) (hn : n ≤ 100000) (v : Value) (hv : v = .agg x.vals.toArray) :
    Calls Try.prog 21 #[.map (some cb), v] w (TkP w0 cb (n + 1) (takeJ cp x)) := by
  subst hv
  obtain ⟨is, host, ow, peer, st, ssn, pp, fr, a, nn, c, zs, note⟩ := x
  have hm := hx.msg
  have hk := hx.sd
  have hw := hx.2.2.2.2.2.2.2.2
  have hwi := hx.1
  unfold Mk.msg at hm
  unfold Mk.sd at hk
  dsimp only at hm hk hw hwi
  have HC : Hid (∀ W, Below w.heap.size w W → Ct w0 W cb own n cp (fun _ => False)) := fun W hW => h.below hW
  clear h hx
  unfold takeJ Mk.vals Mk.msg Mk.sd
  dsimp only
  by_cases h01 : host = 0 ∨ host = 1
  · rw [if_neg (by omega)]
    rcases h01 with rfl | rfl
    · by_cases i1 : is = 1
      · subst i1
        rw [if_pos rfl]
        go_enter Try.func21, Try.ntmps21
        go_wp2_with (first | (go_at_call 24; refine (sent_any w0 cb own n cp (0, ow, peer) st ssn pp fr a nn c zs _ (HC.out _ (((Below.refl _ _).alloc (Nat.le_refl _) _).alloc (by simp) _)) hk hm hn).mono ?_; rintro e w2 ⟨rfl, own2, hct⟩; have HD := (show Hid _ from hct); clear hct) | fail)
        go_ret
        exact ⟨rfl, own2, HD.out.mono (show _ ≤ _ by omega)⟩
      rw [if_neg i1]
      by_cases i2 : is = 2
      · subst i2
        rw [if_pos rfl]
        cases fr
        · rw [if_neg (by simp)]
          go_enter Try.func21, Try.ntmps21
          go_wp2_with (first | (go_at_call 26; refine (gotNext_any w0 cb own n cp (0, ow, peer) st ssn pp a nn c zs _ (HC.out _ (((Below.refl _ _).alloc (Nat.le_refl _) _).alloc (by simp) _)) hk (.inl rfl) hm hn).mono ?_; rintro e w2 ⟨rfl, own2, hct⟩; have HD := (show Hid _ from hct); clear hct) | fail)
          go_ret
          exact ⟨rfl, own2, HD.out.mono (Nat.le_refl _)⟩
        · rw [if_pos rfl]
          go_enter Try.func21, Try.ntmps21
          go_wp2_with (first | (go_at_call 25; refine (gotFree_any w0 cb own n cp (0, ow, peer) st ssn pp a nn c zs _ (HC.out _ (((Below.refl _ _).alloc (Nat.le_refl _) _).alloc (by simp) _)) hk (.inl rfl) hm hn).mono ?_; rintro e w2 ⟨rfl, own2, hct⟩; have HD := (show Hid _ from hct); clear hct) | fail)
          go_ret
          exact ⟨rfl, own2, HD.out.mono (show _ ≤ _ by omega)⟩
      rw [if_neg i2]
      by_cases i3 : is = 3
      · subst i3
        rw [if_pos rfl]
        go_enter Try.func21, Try.ntmps21
        go_wp2_with (first | (go_at_call 27; refine (notice_any w0 cb own n cp (0, ow, peer) note _ (HC.out _ (((Below.refl _ _).alloc (Nat.le_refl _) _).alloc (by simp) _)) hk _ rfl).mono ?_; rintro e w2 ⟨rfl, own2, hct⟩; have HD := (show Hid _ from hct); clear hct) | fail)
        go_ret
        exact ⟨rfl, own2, HD.out.mono (show _ ≤ _ by omega)⟩
      rw [if_neg i3]
      by_cases i4 : is = 4
      · subst i4
        rw [if_pos rfl]
        go_enter Try.func21, Try.ntmps21
        go_wp2_with (first | (go_at_call 28; refine (shut_any w0 cb own n cp (0, ow, peer) _ (HC.out _ (((Below.refl _ _).alloc (Nat.le_refl _) _).alloc (by simp) _)) hk _ rfl).mono ?_; rintro e w2 ⟨rfl, own2, hct⟩; have HD := (show Hid _ from hct); clear hct) | fail)
        go_ret
        exact ⟨rfl, own2, HD.out.mono (show _ ≤ _ by omega)⟩
      rw [if_neg i4]
      go_enter Try.func21, Try.ntmps21
      go_wp2
      go_ret
      exact ⟨rfl, own, (HC.out _ (by first | exact (((Below.refl _ _).alloc (Nat.le_refl _) _).alloc (by simp) _) | exact (Below.refl _ _).alloc (Nat.le_refl _) _)).mono (show n ≤ n + 1 + 2 by omega)⟩
    · by_cases i1 : is = 1
      · subst i1
        rw [if_pos rfl]
        go_enter Try.func21, Try.ntmps21
        go_wp2_with (first | (go_at_call 24; refine (sent_any w0 cb own n cp (1, ow, peer) st ssn pp fr a nn c zs _ (HC.out _ (((Below.refl _ _).alloc (Nat.le_refl _) _).alloc (by simp) _)) hk hm hn).mono ?_; rintro e w2 ⟨rfl, own2, hct⟩; have HD := (show Hid _ from hct); clear hct) | fail)
        go_ret
        exact ⟨rfl, own2, HD.out.mono (show _ ≤ _ by omega)⟩
      rw [if_neg i1]
      by_cases i2 : is = 2
      · subst i2
        rw [if_pos rfl]
        cases fr
        · rw [if_neg (by simp)]
          go_enter Try.func21, Try.ntmps21
          go_wp2_with (first | (go_at_call 26; refine (gotNext_any w0 cb own n cp (1, ow, peer) st ssn pp a nn c zs _ (HC.out _ (((Below.refl _ _).alloc (Nat.le_refl _) _).alloc (by simp) _)) hk (.inr rfl) hm hn).mono ?_; rintro e w2 ⟨rfl, own2, hct⟩; have HD := (show Hid _ from hct); clear hct) | fail)
          go_ret
          exact ⟨rfl, own2, HD.out.mono (Nat.le_refl _)⟩
        · rw [if_pos rfl]
          go_enter Try.func21, Try.ntmps21
          go_wp2_with (first | (go_at_call 25; refine (gotFree_any w0 cb own n cp (1, ow, peer) st ssn pp a nn c zs _ (HC.out _ (((Below.refl _ _).alloc (Nat.le_refl _) _).alloc (by simp) _)) hk (.inr rfl) hm hn).mono ?_; rintro e w2 ⟨rfl, own2, hct⟩; have HD := (show Hid _ from hct); clear hct) | fail)
          go_ret
          exact ⟨rfl, own2, HD.out.mono (show _ ≤ _ by omega)⟩
      rw [if_neg i2]
      by_cases i3 : is = 3
      · subst i3
        rw [if_pos rfl]
        go_enter Try.func21, Try.ntmps21
        go_wp2_with (first | (go_at_call 27; refine (notice_any w0 cb own n cp (1, ow, peer) note _ (HC.out _ (((Below.refl _ _).alloc (Nat.le_refl _) _).alloc (by simp) _)) hk _ rfl).mono ?_; rintro e w2 ⟨rfl, own2, hct⟩; have HD := (show Hid _ from hct); clear hct) | fail)
        go_ret
        exact ⟨rfl, own2, HD.out.mono (show _ ≤ _ by omega)⟩
      rw [if_neg i3]
      by_cases i4 : is = 4
      · subst i4
        rw [if_pos rfl]
        go_enter Try.func21, Try.ntmps21
        go_wp2_with (first | (go_at_call 28; refine (shut_any w0 cb own n cp (1, ow, peer) _ (HC.out _ (((Below.refl _ _).alloc (Nat.le_refl _) _).alloc (by simp) _)) hk _ rfl).mono ?_; rintro e w2 ⟨rfl, own2, hct⟩; have HD := (show Hid _ from hct); clear hct) | fail)
        go_ret
        exact ⟨rfl, own2, HD.out.mono (show _ ≤ _ by omega)⟩
      rw [if_neg i4]
      go_enter Try.func21, Try.ntmps21
      go_wp2
      go_ret
      exact ⟨rfl, own, (HC.out _ (by first | exact (((Below.refl _ _).alloc (Nat.le_refl _) _).alloc (by simp) _) | exact (Below.refl _ _).alloc (Nat.le_refl _) _)).mono (show n ≤ n + 1 + 2 by omega)⟩
  · rw [if_pos (by omega)]
    have h0 : ¬ host = 0 := by omega
    have h1 : ¬ host = 1 := by omega
    have d0 : (host == 0) = false := by simpa using h0
    have d1 : (host == 1) = false := by simpa using h1
    have e0 : (host != 0) = true := by simpa using h0
    have e1 : (host != 1) = true := by simpa using h1
    clear h01
    go_enter Try.func21, Try.ntmps21
    go_wp2
    go_ret
    exact ⟨rfl, own, (HC.out _ (by first | exact (((Below.refl _ _).alloc (Nat.le_refl _) _).alloc (by simp) _) | exact (Below.refl _ _).alloc (Nat.le_refl _) _)).mono (show n ≤ n + 1 + 2 by omega)⟩
end Go.Proofs.Ytpdnkbhgobdniaa
